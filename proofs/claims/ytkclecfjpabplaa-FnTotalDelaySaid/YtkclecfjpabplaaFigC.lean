/- CheckFigures and TotalDelay, in the program and in its model. -/
import Derived.Test.YtkclecfjpabplaaFigM
import Derived.Test.YtkclecfjpabplaaAllW
import Derived.Test.YtkclecfjpabplaaInts
import Derived.Test.YtkclecfjpabplaaApp
namespace Go.Proofs.Ytkclecfjpabplaa
open Go.ChangeShapes Go.WideShapes Go.ChangeAt Go.RowKit
set_option linter.unusedVariables false
open Classical

/-- Whether pages are accepted. -/
noncomputable def ckV (F : List Du) (sp l : List Int) : Bool := fgok F && (okLen sp 0 12 0 10000 && (decide (l.length = F.length) && decide (CTo F sp l F.length)))
theorem ckV_no1 {F : List Du} {sp l : List Int} (h : fgok F = false) : ckV F sp l = false := by rw [ckV, h]; rfl
theorem ckV_no2 {F : List Du} {sp l : List Int} (h : okLen sp 0 12 0 10000 = false) : ckV F sp l = false := by rw [ckV, h, Bool.false_and, Bool.and_false]
theorem ckV_no3 {F : List Du} {sp l : List Int} (h : ¬ l.length = F.length) : ckV F sp l = false := by rw [ckV, decide_eq_false h, Bool.false_and, Bool.and_false, Bool.and_false]
theorem ckV_no4 {F : List Du} {sp l : List Int} {k : Nat} (hk : k < F.length) (h : ¬ ckk F sp l k) : ckV F sp l = false := by rw [ckV, decide_eq_false (show ¬ CTo F sp l F.length from fun x => h (x k hk)), Bool.and_false, Bool.and_false, Bool.and_false]
theorem ckV_yes {F : List Du} {sp l : List Int} : ckV F sp l = true ↔ fgok F = true ∧ okLen sp 0 12 0 10000 = true ∧ l.length = F.length ∧ CTo F sp l F.length := by
  simp only [ckV, Bool.and_eq_true, decide_eq_true_iff]

/-- The room that is used, in a block of twelve cells. -/
def UC (u : World) (g : Nat) (F : List Du) (l : List Int) (p : Nat) : Prop := ∀ j, j < 12 → u.cell? ⟨g, j, none⟩ = some (.int .i64 (us F l j p)) ∧ u.frozen? ⟨g, j, none⟩ = false
theorem UC.step {u : World} {g : Nat} {F : List Du} {l : List Int} {p z : Nat} (h : UC u g F l p) (hz : z < 12) (hp : ng l p = z) {y : Int} (hy : y = us F l z p + (tg F p).a) : UC (u.setCell ⟨g, z, none⟩ (.int .i64 y)) g F l (p + 1) := by
  intro j hj
  obtain ⟨h1, h2⟩ := h j hj
  by_cases e : j = z
  · subst e
    have h3 := us_same (F := F) (l := l) (k := p)
    rw [hp] at h3
    rw [h3, ← hy]
    exact ⟨World.cell?_setCell_same' _ _ _ (by rw [h1]; rfl), by rw [World.frozen?_setCell]; exact h2⟩
  · rw [us_other (by rw [hp]; omega)]
    refine ⟨?_, by rw [World.frozen?_setCell]; exact h2⟩
    rw [World.cell?_setCell_other _ _ _ _ (by intro e'; injection e' with _ e'; exact e e'.symm)]
    exact h1

theorem UC.drewN {u : World} {g : Nat} {F : List Du} {l : List Int} {p : Nat} (h : UC u g F l p) (k : Nat) : UC (u.drewN k) g F l p := h
set_option maxHeartbeats 4000000 in
theorem CheckFigures_i (w : World) (A B C : Option Addr) (c d k : Nat) (F : List Du) (sp l : List Int) (hf : TL w A F.length F) (hs : IL w B sp.length sp) (hl : IL w C l.length l) (hm : F.length ≤ 4611686018427387904) (hn : sp.length ≤ 4611686018427387904) (ho : l.length ≤ 4611686018427387904) :
    Calls Try.prog 31 #[.slice A F.length c, .slice B sp.length d, .slice C l.length k] w fun e w' => e = .returned (.bool (ckV F sp l)) ∧ Below w.heap.size w w' := by
  have HF := hide hf
  have HS := hide hs
  have HL := hide hl
  clear hf hs hl
  cases q1 : fgok F
  · have E := hide (ckV_no1 (sp := sp) (l := l) q1)
    go_enter Try.func31, Try.ntmps31
    go_wp2_with (go_at_call 72; (with_reducible refine (ValidFigures_i _ _ _ _ F HF.out (by omega)).mono ?_); rintro e w' ⟨rfl, hb⟩; have HB := hide hb; have HS1 := hide (HS.out.below hb); clear hb)
    go_ret
    exact ⟨bool_ret E.out.symm, HB.out⟩
  cases q2 : okLen sp 0 12 0 10000
  · have E := hide (ckV_no2 (F := F) (l := l) q2)
    go_enter Try.func31, Try.ntmps31
    go_wp2_with (first | (go_at_call 72; (with_reducible refine (ValidFigures_i _ _ _ _ F HF.out (by omega)).mono ?_); rintro e w' ⟨rfl, hb⟩; have HB := hide hb; have HS1 := hide (HS.out.below hb); clear hb) | (go_at_call 73; (with_reducible refine (validSpace_i _ _ _ _ sp HS1.out (by omega)).mono ?_); rintro e w' ⟨rfl, rfl⟩))
    go_ret
    exact ⟨bool_ret E.out.symm, HB.out⟩
  by_cases q3 : l.length = F.length
  · obtain ⟨f1, f2⟩ := fgok_iff.1 q1
    obtain ⟨⟨_, s1⟩, s2⟩ := okLen_iff.1 q2
    have s1' : sp.length ≤ 12 := by omega
    have BAD := hide (fun (p : Nat) (h : p < F.length) => ckV_no4 (F := F) (sp := sp) (l := l) h)
    have YES := hide (fun (h : CTo F sp l F.length) => ckV_yes.2 ⟨q1, q2, q3, h⟩)
    have F2 := hide f2
    have S2 := hide s2
    have g3 : ((l.length : Int) != (F.length : Int)) = false := by simp [q3]
    have Q3 := hide q3
    clear f2 s2 s1 q3
    go_enter Try.func31, Try.ntmps31
    go_wp2_with (first | (go_at_call 72; (with_reducible refine (ValidFigures_i _ _ _ _ F HF.out (by omega)).mono ?_); rintro e w' ⟨rfl, hb⟩; have HB := hide hb; have HS1 := hide (HS.out.below hb); clear hb) | (go_at_call 73; (with_reducible refine (validSpace_i _ _ _ _ sp HS1.out (by omega)).mono ?_); rintro e w' ⟨rfl, rfl⟩))
    have hzw := HB.out.size
    go_loopw [8, 28] (fun v i u => ∃ p : Nat, p ≤ l.length ∧ v = .int .i64 (pb l p) ∧ i = .int .i64 p ∧ CTo F sp l p ∧ UC u w'.heap.size F l p ∧ Below w.heap.size w u) (fun _ i _ => l.length - (intOf i).toNat)
    case atStart =>
      refine ⟨0, by omega, rfl, rfl, CTo.zero _ _ _, fun j hj => ?_, bl_alloc HB.out _⟩
      rcases (by omega : j = 0 ∨ j = 1 ∨ j = 2 ∨ j = 3 ∨ j = 4 ∨ j = 5 ∨ j = 6 ∨ j = 7 ∨ j = 8 ∨ j = 9 ∨ j = 10 ∨ j = 11) with rfl | rfl | rfl | rfl | rfl | rfl | rfl | rfl | rfl | rfl | rfl | rfl <;> simp [go_sem, us]
    case round =>
      obtain ⟨p, hp, rfl, rfl, hct, huc, hbl⟩ := hrel
      have HC := hide hct
      have HU := hide huc
      have HB1 := hide hbl
      clear hct huc hbl HB HS1
      obtain ⟨T, hT⟩ : ∃ T, T = pb l p := ⟨_, rfl⟩
      rw [← hT]
      have HT := hide hT
      clear hT
      by_cases hlt : p < l.length
      · have hpf : p < F.length := by have := Q3.out; omega
        obtain ⟨b, o, hA, hb0, c0, c1⟩ := (HF.out.below HB1.out).at2 hpf
        obtain ⟨b', o', hA', hb0', e0⟩ := (HL.out.below HB1.out).at_ hlt
        subst hA
        subst hA'
        have BADp := hide (BAD.out p hpf)
        have NXT := hide (fun h => HC.out.step (k := p) h)
        have USS := us_same (F := F) (l := l) (k := p)
        have USB := us_bd (F := F) (l := l) (j := ng l p) (k := p) (fun i hi => (F2.out i (by omega)).1)
        obtain ⟨x0, x1⟩ := (F2.out p hpf).1
        have y0 := (F2.out p hpf).2.1.1
        obtain ⟨X, hX⟩ : ∃ X, X = (tg F p).a := ⟨_, rfl⟩
        obtain ⟨Y, hY⟩ : ∃ Y, Y = (tg F p).b := ⟨_, rfl⟩
        obtain ⟨z, hz⟩ : ∃ z, z = ng l p := ⟨_, rfl⟩
        unfold ckk at BADp NXT
        rw [← hX] at c0 x0 x1 USS
        rw [← hY] at c1 y0 BADp NXT
        rw [← hz] at e0 BADp NXT USS USB
        rw [USS, ← HT.out] at BADp NXT
        have HX := hide hX
        have HZ := hide hz
        clear hX hY hz USS
        have ps : (p : Int) ≤ 10 := by omega
        rcases (by omega : T < Y ∨ Y ≤ T) with h1 | h1
        · have hM : max T Y = Y := by omega
          rw [hM] at BADp NXT
          clear hM
          cases q : inB z Y ((sp.length : Int) - 1)
          · have E := hide (BADp.out (fun x => by rw [inB_yes x.1.1 x.1.2] at q; cases q))
            clear BADp NXT
            go_wp2_with (go_at_call 65; refine (within_any _ _ _ _).mono ?_; rintro e w' ⟨rfl, rfl⟩)
            go_ret
            exact ⟨bool_ret E.out.symm, HB1.out⟩
          · obtain ⟨k1, k2⟩ := inB_iff.1 q
            have z0 : 0 ≤ z := by omega
            obtain ⟨Z, rfl⟩ := Int.eq_ofNat_of_zero_le z0
            have hZ : Z < sp.length := by omega
            have hZ12 : Z < 12 := by omega
            obtain ⟨b2, o2, hB, hb2, d0⟩ := HS.out.at_ hZ
            subst hB
            replace d0 := keep_cell HB1.out d0
            obtain ⟨r0, r1⟩ := S2.out Z hZ
            rw [Int.toNat_natCast] at BADp NXT
            obtain ⟨R, hR⟩ : ∃ R, R = ng sp Z := ⟨_, rfl⟩
            rw [← hR] at d0 r0 r1 BADp NXT
            obtain ⟨v0, vf⟩ := HU.out Z hZ12
            have UST := hide (HU.out.step (p := p) hZ12 HZ.out.symm (y := us F l Z p + X) (by rw [HX.out]))
            obtain ⟨u, hu⟩ : ∃ u, u = us F l Z p := ⟨_, rfl⟩
            obtain ⟨ub0, ub1⟩ := USB
            rw [← hu] at v0 UST ub0 ub1 BADp NXT
            have HNX := hide (show pb l (p + 1) = (Z : Int) from HZ.out.symm)
            have ne1 : ¬ w'.heap.size = b2 := by omega
            clear hR hu
            rcases (by omega : R < u + X ∨ u + X ≤ R) with h2 | h2
            · have E := hide (BADp.out (fun x => by omega))
              have d2 : decide (R < u + X) = true := decide_eq_true h2
              clear BADp NXT
              go_wp2_with (go_at_call 65; refine (within_any _ _ _ _).mono ?_; rintro e w' ⟨rfl, rfl⟩)
              go_region
              go_wp2
              go_quiet (fail)
              go_wp2
              go_ret
              have hb := HB1.out
              exact ⟨bool_ret E.out.symm, (by (repeat' (first | with_reducible exact bl_refl _ | with_reducible assumption | with_reducible refine bl_alloc ?_ _ | with_reducible refine bl_set ?_ ?_ _ | with_reducible refine bl_drewN ?_ _ | with_reducible refine bl_drew ?_ | with_reducible refine bl_call (by assumption) ?_)); (all_goals (first | omega | (simp; done) | (simp; omega))))⟩
            · have M := hide (NXT.out ⟨⟨k1, k2⟩, h2⟩)
              have d2 : decide (R < u + X) = false := decide_eq_false (by omega)
              clear BADp NXT
              go_wp2_with (go_at_call 65; refine (within_any _ _ _ _).mono ?_; rintro e w' ⟨rfl, rfl⟩)
              go_region
              go_wp2
              go_quiet (fail)
              go_wp2
              go_roundw
              case rel => exact ⟨p + 1, by omega, by rw [HNX.out], by go_num, M.out, UST.out.drewN _, by have hb := HB1.out; exact (by (repeat' (first | with_reducible exact bl_refl _ | with_reducible assumption | with_reducible refine bl_alloc ?_ _ | with_reducible refine bl_set ?_ ?_ _ | with_reducible refine bl_drewN ?_ _ | with_reducible refine bl_drew ?_ | with_reducible refine bl_call (by assumption) ?_)); (all_goals (first | omega | (simp; done) | (simp; omega))))⟩
              case measure => simp [intOf]; omega
        · have hM : max T Y = T := by omega
          rw [hM] at BADp NXT
          clear hM
          cases q : inB z T ((sp.length : Int) - 1)
          · have E := hide (BADp.out (fun x => by rw [inB_yes x.1.1 x.1.2] at q; cases q))
            clear BADp NXT
            go_wp2_with (go_at_call 65; refine (within_any _ _ _ _).mono ?_; rintro e w' ⟨rfl, rfl⟩)
            go_ret
            exact ⟨bool_ret E.out.symm, HB1.out⟩
          · obtain ⟨k1, k2⟩ := inB_iff.1 q
            have z0 : 0 ≤ z := by omega
            obtain ⟨Z, rfl⟩ := Int.eq_ofNat_of_zero_le z0
            have hZ : Z < sp.length := by omega
            have hZ12 : Z < 12 := by omega
            obtain ⟨b2, o2, hB, hb2, d0⟩ := HS.out.at_ hZ
            subst hB
            replace d0 := keep_cell HB1.out d0
            obtain ⟨r0, r1⟩ := S2.out Z hZ
            rw [Int.toNat_natCast] at BADp NXT
            obtain ⟨R, hR⟩ : ∃ R, R = ng sp Z := ⟨_, rfl⟩
            rw [← hR] at d0 r0 r1 BADp NXT
            obtain ⟨v0, vf⟩ := HU.out Z hZ12
            have UST := hide (HU.out.step (p := p) hZ12 HZ.out.symm (y := us F l Z p + X) (by rw [HX.out]))
            obtain ⟨u, hu⟩ : ∃ u, u = us F l Z p := ⟨_, rfl⟩
            obtain ⟨ub0, ub1⟩ := USB
            rw [← hu] at v0 UST ub0 ub1 BADp NXT
            have HNX := hide (show pb l (p + 1) = (Z : Int) from HZ.out.symm)
            have ne1 : ¬ w'.heap.size = b2 := by omega
            clear hR hu
            rcases (by omega : R < u + X ∨ u + X ≤ R) with h2 | h2
            · have E := hide (BADp.out (fun x => by omega))
              have d2 : decide (R < u + X) = true := decide_eq_true h2
              clear BADp NXT
              go_wp2_with (go_at_call 65; refine (within_any _ _ _ _).mono ?_; rintro e w' ⟨rfl, rfl⟩)
              go_region
              go_wp2
              go_quiet (fail)
              go_wp2
              go_ret
              have hb := HB1.out
              exact ⟨bool_ret E.out.symm, (by (repeat' (first | with_reducible exact bl_refl _ | with_reducible assumption | with_reducible refine bl_alloc ?_ _ | with_reducible refine bl_set ?_ ?_ _ | with_reducible refine bl_drewN ?_ _ | with_reducible refine bl_drew ?_ | with_reducible refine bl_call (by assumption) ?_)); (all_goals (first | omega | (simp; done) | (simp; omega))))⟩
            · have M := hide (NXT.out ⟨⟨k1, k2⟩, h2⟩)
              have d2 : decide (R < u + X) = false := decide_eq_false (by omega)
              clear BADp NXT
              go_wp2_with (go_at_call 65; refine (within_any _ _ _ _).mono ?_; rintro e w' ⟨rfl, rfl⟩)
              go_region
              go_wp2
              go_quiet (fail)
              go_wp2
              go_roundw
              case rel => exact ⟨p + 1, by omega, by rw [HNX.out], by go_num, M.out, UST.out.drewN _, by have hb := HB1.out; exact (by (repeat' (first | with_reducible exact bl_refl _ | with_reducible assumption | with_reducible refine bl_alloc ?_ _ | with_reducible refine bl_set ?_ ?_ _ | with_reducible refine bl_drewN ?_ _ | with_reducible refine bl_drew ?_ | with_reducible refine bl_call (by assumption) ?_)); (all_goals (first | omega | (simp; done) | (simp; omega))))⟩
              case measure => simp [intOf]; omega
      · have E := hide (YES.out (by have e : F.length = p := by have := Q3.out; omega
                                    rw [e]; exact HC.out))
        go_wp2
        go_ret
        exact ⟨bool_ret E.out.symm, HB1.out⟩
  · have E := hide (ckV_no3 (F := F) (sp := sp) (l := l) q3)
    have g3 : ((l.length : Int) != (F.length : Int)) = true := by simp; omega
    clear q3
    go_enter Try.func31, Try.ntmps31
    go_wp2_with (first | (go_at_call 72; (with_reducible refine (ValidFigures_i _ _ _ _ F HF.out (by omega)).mono ?_); rintro e w' ⟨rfl, hb⟩; have HB := hide hb; have HS1 := hide (HS.out.below hb); clear hb) | (go_at_call 73; (with_reducible refine (validSpace_i _ _ _ _ sp HS1.out (by omega)).mono ?_); rintro e w' ⟨rfl, rfl⟩))
    go_ret
    exact ⟨bool_ret E.out.symm, HB.out⟩

/-- The room that is left. -/
def lf (F : List Du) (sp l : List Int) (p : Nat) : List Int := (List.range sp.length).map fun j : Nat => ng sp j - us F l j p
theorem lf_len (F : List Du) (sp l : List Int) (p : Nat) : (lf F sp l p).length = sp.length := by simp [lf]
theorem lf_get {F : List Du} {sp l : List Int} {p j : Nat} (h : j < sp.length) : ng (lf F sp l p) j = ng sp j - us F l j p := by simp [ng, lf, List.getD, h]
theorem lf_zero (F : List Du) (sp l : List Int) : lf F sp l 0 = sp := by
  apply List.ext_getElem (by simp [lf])
  intro i h1 h2
  rw [← ng_lt, ← ng_lt, lf_get h2]
  show _ - 0 = _
  omega
theorem lf_step {F : List Du} {sp l : List Int} {p z : Nat} (hp : ng l p = z) {y : Int} (hy : z < sp.length → y = ng sp z - us F l z p - (tg F p).a) : (lf F sp l p).set z y = lf F sp l (p + 1) := by
  apply List.ext_getElem (by simp [lf])
  intro i h1 h2
  rw [lf_len] at h2
  rw [List.getElem_set]
  split
  · rename_i e
    subst e
    rw [← ng_lt, lf_get h2]
    have h3 := us_same (F := F) (l := l) (k := p)
    rw [hp] at h3
    rw [h3, hy h2]
    omega
  · rename_i e
    rw [← ng_lt, ← ng_lt, lf_get h2, lf_get h2, us_other (by rw [hp]; omega)]

set_option maxHeartbeats 4000000 in
theorem CheckFigures_s (w : World) (A B C : Option Addr) (c d k : Nat) (F : List Du) (sp l : List Int) (hf : TL w A F.length F) (hs : IL w B sp.length sp) (hsn : B = none → d = 0) (hl : IL w C l.length l) (hm : F.length ≤ 4611686018427387904) (hn : sp.length ≤ 4611686018427387904) (ho : l.length ≤ 4611686018427387904) :
    Calls Try.prog 32 #[.slice A F.length c, .slice B sp.length d, .slice C l.length k] w fun e w' => e = .returned (.bool (ckV F sp l)) ∧ Below w.heap.size w w' := by
  obtain ⟨i0, hi0, jz0, jz1, jz2⟩ := info_parts int_info
  have HF := hide hf
  have HS := hide hs
  have HL := hide hl
  have HSN := hide hsn
  clear hf hs hl hsn
  cases q1 : fgok F
  · have E := hide (ckV_no1 (sp := sp) (l := l) q1)
    go_enter Try.func32, Try.ntmps32
    go_wp2_with (go_at_call 74; (with_reducible refine (validFloats_s _ _ _ _ F HF.out (by omega)).mono ?_); rintro e w' ⟨rfl, j, rfl⟩)
    go_ret
    exact ⟨bool_ret E.out.symm, bl_drewN (bl_refl _) _⟩
  cases q2 : okLen sp 0 12 0 10000
  · have E := hide (ckV_no2 (F := F) (l := l) q2)
    go_enter Try.func32, Try.ntmps32
    go_wp2_with (first | (go_at_call 74; (with_reducible refine (validFloats_s _ _ _ _ F HF.out (by omega)).mono ?_); rintro e w' ⟨rfl, j, rfl⟩) | (go_at_call 75; (with_reducible refine (validSpace_s _ _ _ _ sp (HS.out.drewN _) (by omega)).mono ?_); rintro e w' ⟨rfl, rfl⟩))
    go_ret
    exact ⟨bool_ret E.out.symm, bl_drewN (bl_refl _) _⟩
  by_cases q3 : l.length = F.length
  · obtain ⟨f1, f2⟩ := fgok_iff.1 q1
    obtain ⟨⟨_, s1⟩, s2⟩ := okLen_iff.1 q2
    have s1' : sp.length ≤ 12 := by omega
    have BAD := hide (fun (p : Nat) (h : p < F.length) => ckV_no4 (F := F) (sp := sp) (l := l) h)
    have YES := hide (fun (h : CTo F sp l F.length) => ckV_yes.2 ⟨q1, q2, q3, h⟩)
    have F2 := hide f2
    have S2 := hide s2
    have g3 : ((l.length : Int) != (F.length : Int)) = false := by simp [q3]
    have Q3 := hide q3
    have H0 := hide (fun j => (show OL ((w.drewN j).alloc (.cells #[] 3)) 3 w.heap.size (some ⟨w.heap.size, 0, none⟩) 0 [] from by
      have := OL.lit (w := w.drewN j) (e := 3) (B := w.heap.size) (Nat.le_refl _) [] (by simp)
      simpa using this))
    clear f2 s2 s1 q3
    go_enter Try.func32, Try.ntmps32
    go_wp2_with (first | (go_at_call 74; (with_reducible refine (validFloats_s _ _ _ _ F HF.out (by omega)).mono ?_); rintro e w' ⟨rfl, j, rfl⟩) | (go_at_call 75; (with_reducible refine (validSpace_s _ _ _ _ sp (HS.out.drewN _) (by omega)).mono ?_); rintro e w' ⟨rfl, rfl⟩) | (at_builtin; refine wpList_append_list rfl (.tmp 25) (.tmp 26) _ rfl 3 i0 Try.underlying22 hi0 jz0 jz1 jz2 w.heap.size (some ⟨w.heap.size, 0, none⟩) 0 0 [] rfl rfl (H0.out _) B sp.length d sp rfl ((HS.out.drewN _).alloc _) HSN.out (by omega) (by simp) ?_; intro A' c' w' hol' hb' hg'))
    have HB := hide (((bl_alloc (bl_drewN (bl_refl w) _) _).trans hb' : Below w.heap.size w w'))
    have HO := hide hol'
    clear hol' hb' hg'
    go_loopw [8] (fun i u => ∃ p : Nat, p ≤ l.length ∧ i = .int .i64 p ∧ CTo F sp l p ∧ OL u 3 w.heap.size A' c' (lf F sp l p) ∧ Below w.heap.size w u) (fun i _ => l.length - (intOf i).toNat)
    case atStart =>
      refine ⟨0, by omega, rfl, CTo.zero _ _ _, ?_, HB.out⟩
      rw [lf_zero]
      exact HO.out
    case round =>
      obtain ⟨p, hp, rfl, hct, hol, hbl⟩ := hrel
      have HC := hide hct
      have HB1 := hide hbl
      have HOL := hide hol
      clear hct hbl hol HB HO
      by_cases hlt : p < l.length
      · have hpf : p < F.length := by have := Q3.out; omega
        obtain ⟨b, o, hA, hb0, c0, c1⟩ := HF.out.at2 hpf
        replace c0 := keep_cell HB1.out c0
        replace c1 := keep_cell HB1.out c1
        obtain ⟨b', o', hA', hb0', e0⟩ := (HL.out.below HB1.out).at_ hlt
        subst hA
        subst hA'
        have BADp := hide (BAD.out p hpf)
        have NXT := hide (fun h => HC.out.step (k := p) h)
        have USS := us_same (F := F) (l := l) (k := p)
        have USB := us_bd (F := F) (l := l) (j := ng l p) (k := p) (fun i hi => (F2.out i (by omega)).1)
        obtain ⟨x0, x1⟩ := (F2.out p hpf).1
        have y0 := (F2.out p hpf).2.1.1
        obtain ⟨X, hX⟩ : ∃ X, X = (tg F p).a := ⟨_, rfl⟩
        obtain ⟨Y, hY⟩ : ∃ Y, Y = (tg F p).b := ⟨_, rfl⟩
        obtain ⟨z, hz⟩ : ∃ z, z = ng l p := ⟨_, rfl⟩
        unfold ckk at BADp NXT
        rw [← hX] at c0 x0 x1 USS
        rw [← hY] at c1 y0 BADp NXT
        rw [← hz] at e0 BADp NXT USS USB
        rw [USS] at BADp NXT
        have HX := hide hX
        have HZ := hide hz
        clear hX hY hz USS
        have ps : (p : Int) ≤ 10 := by omega
        cases q : inB z Y ((sp.length : Int) - 1)
        · have E := hide (BADp.out (fun x => by
            rw [inB_yes (by have := x.1.1; omega) x.1.2] at q; cases q))
          clear BADp NXT
          go_wp2_with (go_at_call 69; refine (inRange_any _ _ _ _).mono ?_; rintro e w' ⟨rfl, rfl⟩)
          go_ret
          exact ⟨bool_ret E.out.symm, HB1.out⟩
        obtain ⟨k1, k2⟩ := inB_iff.1 q
        obtain ⟨Z, rfl⟩ := Int.eq_ofNat_of_zero_le (show 0 ≤ z by omega)
        have hZ : Z < sp.length := by omega
        obtain ⟨r0, r1⟩ := S2.out Z hZ
        rw [Int.toNat_natCast] at BADp NXT
        have LL := lf_len F sp l p
        obtain ⟨g, hg, hBg, hgz, hfz⟩ := HOL.out.frozen (by omega)
        obtain ⟨b2, o2, hb2, _, d0⟩ := HOL.out.reads.at_ (i := Z) (by omega)
        rw [hg] at hb2
        injection hb2 with hb2
        cases hb2
        have fz := hfz Z
        rw [Nat.zero_add, lf_get hZ] at d0
        have LS := hide (lf_step (F := F) (sp := sp) (l := l) (p := p) HZ.out.symm (y := ng sp Z - us F l Z p - X) (fun _ => by rw [HX.out]))
        have ST := hide (by have := HOL.out; rw [hg] at this; exact (this.set_ Z (ng sp Z - us F l Z p - X)).1)
        rw [LS.out] at ST
        obtain ⟨ub0, ub1⟩ := USB
        have hg' := hg
        subst hg'
        obtain ⟨R, hR⟩ : ∃ R, R = ng sp Z := ⟨_, rfl⟩
        obtain ⟨u, hu⟩ : ∃ u, u = us F l Z p := ⟨_, rfl⟩
        rw [← hR] at d0 r0 r1 BADp NXT ST
        rw [← hu] at d0 ub0 ub1 BADp NXT ST
        have nb : ¬ g = b := by omega
        have HPB := hide (show p = 0 ∧ pb l p = 0 ∨ ∃ k, p = k + 1 ∧ pb l p = ng l k from by
          cases p with
          | zero => exact .inl ⟨rfl, rfl⟩
          | succ k => exact .inr ⟨k, rfl, rfl⟩)
        clear hR hu hfz LS LL
        rcases HPB.out with ⟨hp0, hpb⟩ | ⟨k', hk', hpb⟩
        · have d2 : decide ((0 : Int) < (p : Int)) = false := decide_eq_false (by omega)
          have d2' : decide (0 < p) = false := decide_eq_false (by omega)
          rw [hpb] at BADp NXT
          have BD := hide (fun (h : ¬ u + X ≤ R) => BADp.out (fun x => h x.2))
          have NX := hide (fun (h : u + X ≤ R) => NXT.out ⟨⟨by omega, k2⟩, h⟩)
          clear BADp NXT hp0 hpb HPB
          (rcases (by omega : R - u - X < 0 ∨ 0 ≤ R - u - X) with h2 | h2; (· (have E := hide (BD.out (by omega)); have d4 : decide (R - u - X < 0) = true := decide_eq_true h2; clear BD NX; go_wp2_with (go_at_call 69; refine (inRange_any _ _ _ _).mono ?_; rintro e w' ⟨rfl, rfl⟩); go_region; go_wp2; go_ret; have hb := HB1.out; exact ⟨bool_ret E.out.symm, (by (repeat' (first | with_reducible exact bl_refl _ | with_reducible assumption | with_reducible refine bl_alloc ?_ _ | with_reducible refine bl_set ?_ ?_ _ | with_reducible refine bl_drewN ?_ _ | with_reducible refine bl_drew ?_ | with_reducible refine bl_call (by assumption) ?_)); (all_goals (first | omega | (simp; done) | (simp; omega))))⟩)); (· (have M := hide (NX.out (by omega)); have d4 : decide (R - u - X < 0) = false := decide_eq_false (by omega); clear BD NX; go_wp2_with (go_at_call 69; refine (inRange_any _ _ _ _).mono ?_; rintro e w' ⟨rfl, rfl⟩); go_region; go_wp2; go_roundw; (case rel => exact ⟨p + 1, by omega, by go_num, M.out, ST.out.drewN _, by have hb := HB1.out; exact (by (repeat' (first | with_reducible exact bl_refl _ | with_reducible assumption | with_reducible refine bl_alloc ?_ _ | with_reducible refine bl_set ?_ ?_ _ | with_reducible refine bl_drewN ?_ _ | with_reducible refine bl_drew ?_ | with_reducible refine bl_call (by assumption) ?_)); (all_goals (first | omega | (simp; done) | (simp; omega))))⟩); (case measure => (simp [intOf]; omega)))))
        · have ek : (p : Int) - 1 = (k' : Int) := by omega
          have wk : IntKind.i64.wrap (k' : Int) = (k' : Int) := IntWalk.i64_in _ (by omega)
          have d2 : decide ((0 : Int) < (p : Int)) = true := decide_eq_true (by omega)
          have d2' : decide (0 < p) = true := decide_eq_true (by omega)
          obtain ⟨b3, o3, hA3, _, e1⟩ := (HL.out.below HB1.out).at_ (i := k') (by omega)
          injection hA3 with hA3
          cases hA3
          obtain ⟨T, hT⟩ : ∃ T, T = ng l k' := ⟨_, rfl⟩
          rw [← hT] at e1 hpb
          rw [hpb] at BADp NXT
          clear hT hpb HPB hk'
          rcases (by omega : (Z : Int) < T ∨ T ≤ (Z : Int)) with h5 | h5
          · have E := hide (BADp.out (fun x => by have := x.1.1; omega))
            have d3 : decide ((Z : Int) < T) = true := decide_eq_true h5
            clear BADp NXT
            go_wp2_with (go_at_call 69; refine (inRange_any _ _ _ _).mono ?_; rintro e w' ⟨rfl, rfl⟩)
            go_ret
            exact ⟨bool_ret E.out.symm, HB1.out⟩
          · have d3 : decide ((Z : Int) < T) = false := decide_eq_false (by omega)
            have BD := hide (fun (h : ¬ u + X ≤ R) => BADp.out (fun x => h x.2))
            have NX := hide (fun (h : u + X ≤ R) => NXT.out ⟨⟨by omega, k2⟩, h⟩)
            clear BADp NXT
            (rcases (by omega : R - u - X < 0 ∨ 0 ≤ R - u - X) with h2 | h2; (· (have E := hide (BD.out (by omega)); have d4 : decide (R - u - X < 0) = true := decide_eq_true h2; clear BD NX; go_wp2_with (go_at_call 69; refine (inRange_any _ _ _ _).mono ?_; rintro e w' ⟨rfl, rfl⟩); go_region; go_wp2; go_ret; have hb := HB1.out; exact ⟨bool_ret E.out.symm, (by (repeat' (first | with_reducible exact bl_refl _ | with_reducible assumption | with_reducible refine bl_alloc ?_ _ | with_reducible refine bl_set ?_ ?_ _ | with_reducible refine bl_drewN ?_ _ | with_reducible refine bl_drew ?_ | with_reducible refine bl_call (by assumption) ?_)); (all_goals (first | omega | (simp; done) | (simp; omega))))⟩)); (· (have M := hide (NX.out (by omega)); have d4 : decide (R - u - X < 0) = false := decide_eq_false (by omega); clear BD NX; go_wp2_with (go_at_call 69; refine (inRange_any _ _ _ _).mono ?_; rintro e w' ⟨rfl, rfl⟩); go_region; go_wp2; go_roundw; (case rel => exact ⟨p + 1, by omega, by go_num, M.out, ST.out.drewN _, by have hb := HB1.out; exact (by (repeat' (first | with_reducible exact bl_refl _ | with_reducible assumption | with_reducible refine bl_alloc ?_ _ | with_reducible refine bl_set ?_ ?_ _ | with_reducible refine bl_drewN ?_ _ | with_reducible refine bl_drew ?_ | with_reducible refine bl_call (by assumption) ?_)); (all_goals (first | omega | (simp; done) | (simp; omega))))⟩); (case measure => (simp [intOf]; omega)))))
      · have E := hide (YES.out (by have e : F.length = p := by have := Q3.out; omega
                                    rw [e]; exact HC.out))
        go_wp2
        go_ret
        exact ⟨bool_ret E.out.symm, HB1.out⟩
  · have E := hide (ckV_no3 (F := F) (sp := sp) (l := l) q3)
    have g3 : ((l.length : Int) != (F.length : Int)) = true := by simp; omega
    clear q3
    go_enter Try.func32, Try.ntmps32
    go_wp2_with (first | (go_at_call 74; (with_reducible refine (validFloats_s _ _ _ _ F HF.out (by omega)).mono ?_); rintro e w' ⟨rfl, j, rfl⟩) | (go_at_call 75; (with_reducible refine (validSpace_s _ _ _ _ sp (HS.out.drewN _) (by omega)).mono ?_); rintro e w' ⟨rfl, rfl⟩))
    go_ret
    exact ⟨bool_ret E.out.symm, bl_drewN (bl_refl _) _⟩
end Go.Proofs.Ytkclecfjpabplaa
