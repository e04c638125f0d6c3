/- The law on boxes of lines holds for every code: boxes are between their breaks. No condition. -/
import Derived.Test.YtmolkppdfbldnaaJn
import Derived.Test.YtmolkppdfbldnaaLnP
import Derived.Deep.RegionHeld3
import Derived.Deep.CutRange
namespace Go.Proofs.Ytmolkppdfbldnaa
open Go.ChangeShapes Go.WideShapes Go.ChangeAt Go.RowKit
set_option linter.unusedVariables false

set_option maxRecDepth 8000 in
set_option maxHeartbeats 4000000 in
theorem walk_FnBoxesOf (a : Option Addr) (n c : Nat) (zs : List Int) (w : World) (hr : IsRow .u8 w a n c zs) :
    Calls Try.prog 12 #[.slice a n c] w fun e w' => e = .returned (.bool true) ∧ Below w.heap.size w w' := by
  have hm := small_rown hr
  unfold maxLen at hm
  rcases (by omega : 1048576 < n ∨ n ≤ 1048576) with hn | hn
  · go_enter Try.func12, Try.ntmps12
    go_wp2
    go_ret
    exact ⟨rfl, bl_refl _⟩
  go_enter Try.func12, Try.ntmps12
  go_wp2_with fail
  (with_reducible refine (DrawBoxesOf_any _ _ _ _ _ hr).mono ?_)
  rintro e u0 ⟨A, c0, L, f, t, rfl, hol, hll, hf, ht, hb⟩
  clear hr
  have HR := hide hol.reads
  have HB := hide hb
  clear hol hb
  have GI := fun (u : World) (h : TL u A L.length L) => LineGlue_i u A L.length c0 L h (by omega) f t (by omega) (by omega)
  have BI := fun (u : World) (h : TL u A L.length L) => BoxesOf_i u A L.length c0 L h (by omega) f t (by omega) (by omega)
  have BS := fun (u : World) (h : TL u A L.length L) => BoxesOf_s u A L.length c0 L h (by omega) f t (by omega) (by omega)
  unfold RetL at BI BS
  have hlb := bxO_len L f t
  obtain ⟨R, hR⟩ : ∃ R, R = bxO L f t := ⟨_, rfl⟩
  rw [← hR] at BI BS hlb
  have HBI := hide BI
  have HBS := hide BS
  clear BI BS
  cases hok : okL L f t
  · rw [lgO_no hok] at GI
    have HGI := hide GI
    clear GI hok hR
    go_wp2_with fail
    (with_reducible refine (HBI.out _ HR.out).mono ?_)
    rintro e u1 ⟨A1, c1, rfl, ho1, hb1⟩
    have HB1 := hide (bl_call hb1 HB.out)
    have HR1 := hide (HR.out.below hb1)
    have HO1 := hide ho1
    clear hb1 ho1
    go_wp2_with fail
    (with_reducible refine (HGI.out _ HR1.out).mono ?_)
    rintro e u2 ⟨rfl, hb2⟩
    have HB2 := hide (bl_alloc (bl_call hb2 HB1.out) (.cells #[.int .i64 0, .int .i64 0, .int .i64 0] 34))
    have HR2 := hide ((HR1.out.below hb2).alloc (.cells #[.int .i64 0, .int .i64 0, .int .i64 0] 34))
    have HO2 := hide ((HO1.out.below hb2).alloc (.cells #[.int .i64 0, .int .i64 0, .int .i64 0] 34))
    clear hb2
    go_wp2_with fail
    (with_reducible refine (HBS.out _ HR2.out).mono ?_)
    rintro e u3 ⟨A3, c3, rfl, ho3, hb3⟩
    have HB3 := hide (bl_call hb3 HB2.out)
    have HR3 := hide (HR2.out.below hb3)
    have HO3 := hide (HO2.out.below hb3)
    clear hb3
    go_wp2_with fail
    (with_reducible refine (eqInts_l _ _ _ _ _ _ _ R R HO3.out.reads ho3.reads (by omega) (by omega)).mono ?_)
    rintro e w' ⟨rfl, j3, rfl⟩
    simp only [decide_true]
    go_wp2_with fail
    (with_reducible refine (HBS.out _ (HR3.out.drewN j3)).mono ?_)
    rintro e u4 ⟨A4, c4, rfl, ho4, hb4⟩
    go_wp2_with fail
    (with_reducible refine (eqInts_l _ _ _ _ _ _ _ R R ((HO3.out.drewN j3).below hb4).reads ho4.reads (by omega) (by omega)).mono ?_)
    rintro e w' ⟨rfl, j5, rfl⟩
    simp only [decide_true]
    go_wp2
    go_ret
    exact ⟨rfl, bl_drewN (bl_call hb4 (bl_drewN HB3.out j3)) _⟩
  · have hok' := hok
    simp only [okL, Bool.and_eq_true] at hok'
    obtain ⟨p, q, hp, rfl, hpq, hq, _⟩ := hasL_of hok'.2
    rw [lgO_yes hok hp rfl] at GI
    have HME := hide (fun (i : Nat) (h1 : p ≤ i) (h2 : i < q) => show (((i : Nat) : Int) ∈ R) ↔ isB (tg L i) = true by
      rw [hR, bxO_yes hok hp rfl]
      exact bxN_mem h1 (by omega))
    obtain ⟨x, hx⟩ : ∃ x, x = sW L q - sW L (min (fBx L p) q) + atW (tg L q) := ⟨_, rfl⟩
    obtain ⟨y, hy⟩ : ∃ x, x = sT L q - sT L (min (fBx L p) q) := ⟨_, rfl⟩
    obtain ⟨z, hz⟩ : ∃ x, x = sS L q - sS L (min (fBx L p) q) := ⟨_, rfl⟩
    rw [← hx, ← hy, ← hz] at GI
    have HGI := hide GI
    have wp : IntKind.i64.wrap (f + 1) = (p : Int) := by rw [hp]; exact IntWalk.i64_in _ (by omega)
    clear GI hok hok' hR hx hy hz
    go_wp2_with fail
    (with_reducible refine (HBI.out _ HR.out).mono ?_)
    rintro e u1 ⟨A1, c1, rfl, ho1, hb1⟩
    have HB1 := hide (bl_call hb1 HB.out)
    have HR1 := hide (HR.out.below hb1)
    have HO1 := hide ho1
    clear hb1 ho1
    go_wp2_with fail
    (with_reducible refine (HGI.out _ HR1.out).mono ?_)
    rintro e u2 ⟨rfl, hb2⟩
    have HB2 := hide (bl_alloc (bl_call hb2 HB1.out) (.cells #[.int .i64 x, .int .i64 y, .int .i64 z] 34))
    have HR2 := hide ((HR1.out.below hb2).alloc (.cells #[.int .i64 x, .int .i64 y, .int .i64 z] 34))
    have HO2 := hide ((HO1.out.below hb2).alloc (.cells #[.int .i64 x, .int .i64 y, .int .i64 z] 34))
    clear hb2
    go_wp2_with fail
    (with_reducible refine (HBS.out _ HR2.out).mono ?_)
    rintro e u3 ⟨A3, c3, rfl, ho3, hb3⟩
    have HB3 := hide (bl_call hb3 HB2.out)
    have HR3 := hide (HR2.out.below hb3)
    have HO3 := hide (HO2.out.below hb3)
    clear hb3
    go_wp2_with fail
    (with_reducible refine (eqInts_l _ _ _ _ _ _ _ R R HO3.out.reads ho3.reads (by omega) (by omega)).mono ?_)
    rintro e w' ⟨rfl, j3, rfl⟩
    simp only [decide_true]
    have HR4 := hide (HR3.out.drewN j3)
    have HIL := hide (HO3.out.drewN j3).reads
    have HB4 := hide (bl_drewN HB3.out j3)
    clear HBI HBS HGI HR HR1 HR2 HR3 HB HB1 HB2 HB3 HO1 HO2 HO3 ho3 hf ht hp
    obtain ⟨U, hU⟩ : ∃ U, U = u3.drewN j3 := ⟨_, rfl⟩
    rw [← hU] at HR4 HIL HB4 ⊢
    clear hU
    go_wp2
    go_loopw [9] (fun i u => ∃ k : Nat, p ≤ k ∧ k ≤ q ∧ i = .int .i64 k ∧ Below U.heap.size U u) (fun i _ => q - (intOf i).toNat)
    case atStart => exact ⟨p, Nat.le_refl _, hpq, rfl, bl_refl _⟩
    case round =>
      obtain ⟨k, hpk, hk, rfl, hbl⟩ := hrel
      have HBU := hide hbl
      have HIW := hide (HIL.out.below hbl)
      have HRW := hide (HR4.out.below hbl)
      clear hbl
      by_cases hlt : k < q
      · have hkl : k < L.length := by omega
        have hkl2 : (k : Int) < (L.length : Int) := by omega
        obtain ⟨b, o, rfl, hb0, d0, _, _, _, _, _⟩ := HRW.out.at6 hkl
        obtain ⟨v, hv⟩ : ∃ v, v = (tg L k).k := ⟨_, rfl⟩
        have IE := HME.out k hpk hlt
        have II := fun (u : World) (h : IL u A1 R.length R) => isIn_l u A1 R.length c1 R (k : Int) h (by omega)
        have EQ : decide ((k : Int) ∈ R) = decide (v = 1) := by
          rw [Bool.eq_iff_iff, decide_eq_true_eq, decide_eq_true_eq, IE, hv]
          simp [isB]
        rw [EQ] at II
        rw [← hv] at d0
        have HII := hide II
        clear hv IE II EQ
        rcases (by omega : v = 1 ∨ v ≠ 1) with rfl | h1
        · have HI2 := hide (fun (u : World) (h : IL u A1 R.length R) => show Calls Try.prog 46 #[.slice A1 R.length c1, .int .i64 k] u fun e w' => e = .returned (.bool true) ∧ u = w' from HII.out u h)
          go_upto_region 11 with fail
          have S0 := bl_drew (bl_refl wr)
          refine wp_region_held_drew (S := fun u : World => Below wr.heap.size wr u) (by kernel_rfl) (S0) (fun hHeld => ?_)
          (first | (refine wpAnyH_take (i := 0) (oi := ?_) (v := ?_) ?_ (by kernel_rfl) (by kernel_rfl) (by kernel_rfl) ?_ ?_ (by assumption) ?_; rotate_left 2; (next => simp only [List.getElem?_toArray, List.getElem?_cons_succ, List.getElem?_cons_zero]; rfl); (next => exact fun _ _ _ h => h); (next => refine Or.inl ⟨by rfl, ?_⟩; intro w hSw; (try dsimp only at hSw); go_simp; (try (with_reducible rfl)))) | (refine wpAnyH_take (i := 0) (oi := ?_) (v := undef) ?_ (by kernel_rfl) (by kernel_rfl) (by kernel_rfl) ?_ ?_ (by assumption) ?_; rotate_left 1; (next => simp only [List.getElem?_toArray, List.getElem?_cons_succ, List.getElem?_cons_zero]; rfl); (next => exact fun _ _ _ h => h); (next => exact Or.inr ⟨by rfl, rfl⟩))); (try simp only [Act.put, List.setIfInBounds_toArray, List.set_cons_zero, List.set_cons_succ])
          (first | (refine wpAnyH_take (i := 1) (oi := ?_) (v := ?_) ?_ (by kernel_rfl) (by kernel_rfl) (by kernel_rfl) ?_ ?_ (by assumption) ?_; rotate_left 2; (next => simp only [List.getElem?_toArray, List.getElem?_cons_succ, List.getElem?_cons_zero]; rfl); (next => exact fun _ _ _ h => h); (next => refine Or.inl ⟨by rfl, ?_⟩; intro w hSw; (try dsimp only at hSw); go_simp; (try (with_reducible rfl)))) | (refine wpAnyH_take (i := 1) (oi := ?_) (v := undef) ?_ (by kernel_rfl) (by kernel_rfl) (by kernel_rfl) ?_ ?_ (by assumption) ?_; rotate_left 1; (next => simp only [List.getElem?_toArray, List.getElem?_cons_succ, List.getElem?_cons_zero]; rfl); (next => exact fun _ _ _ h => h); (next => exact Or.inr ⟨by rfl, rfl⟩))); (try simp only [Act.put, List.setIfInBounds_toArray, List.set_cons_zero, List.set_cons_succ])
          (first | (refine wpAnyH_take (i := 3) (oi := ?_) (v := ?_) ?_ (by kernel_rfl) (by kernel_rfl) (by kernel_rfl) ?_ ?_ (by assumption) ?_; rotate_left 2; (next => simp only [List.getElem?_toArray, List.getElem?_cons_succ, List.getElem?_cons_zero]; rfl); (next => exact fun _ _ _ h => h); (next => refine Or.inl ⟨by rfl, ?_⟩; intro w hSw; (try dsimp only at hSw); go_simp; (try (with_reducible rfl)))) | (refine wpAnyH_take (i := 3) (oi := ?_) (v := undef) ?_ (by kernel_rfl) (by kernel_rfl) (by kernel_rfl) ?_ ?_ (by assumption) ?_; rotate_left 1; (next => simp only [List.getElem?_toArray, List.getElem?_cons_succ, List.getElem?_cons_zero]; rfl); (next => exact fun _ _ _ h => h); (next => exact Or.inr ⟨by rfl, rfl⟩))); (try simp only [Act.put, List.setIfInBounds_toArray, List.set_cons_zero, List.set_cons_succ])
          (first | (refine wpAnyH_take (i := 4) (oi := ?_) (v := ?_) ?_ (by kernel_rfl) (by kernel_rfl) (by kernel_rfl) ?_ ?_ (by assumption) ?_; rotate_left 2; (next => simp only [List.getElem?_toArray, List.getElem?_cons_succ, List.getElem?_cons_zero]; rfl); (next => exact fun _ _ _ h => h); (next => refine Or.inl ⟨by rfl, ?_⟩; intro w hSw; (try dsimp only at hSw); go_simp; (try (with_reducible rfl)))) | (refine wpAnyH_take (i := 4) (oi := ?_) (v := undef) ?_ (by kernel_rfl) (by kernel_rfl) (by kernel_rfl) ?_ ?_ (by assumption) ?_; rotate_left 1; (next => simp only [List.getElem?_toArray, List.getElem?_cons_succ, List.getElem?_cons_zero]; rfl); (next => exact fun _ _ _ h => h); (next => exact Or.inr ⟨by rfl, rfl⟩))); (try simp only [Act.put, List.setIfInBounds_toArray, List.set_cons_zero, List.set_cons_succ])
          (first | (refine wpAnyH_take (i := 5) (oi := ?_) (v := ?_) ?_ (by kernel_rfl) (by kernel_rfl) (by kernel_rfl) ?_ ?_ (by assumption) ?_; rotate_left 2; (next => simp only [List.getElem?_toArray, List.getElem?_cons_succ, List.getElem?_cons_zero]; rfl); (next => exact fun _ _ _ h => h); (next => refine Or.inl ⟨by rfl, ?_⟩; intro w hSw; (try dsimp only at hSw); go_simp; (try (with_reducible rfl)))) | (refine wpAnyH_take (i := 5) (oi := ?_) (v := undef) ?_ (by kernel_rfl) (by kernel_rfl) (by kernel_rfl) ?_ ?_ (by assumption) ?_; rotate_left 1; (next => simp only [List.getElem?_toArray, List.getElem?_cons_succ, List.getElem?_cons_zero]; rfl); (next => exact fun _ _ _ h => h); (next => exact Or.inr ⟨by rfl, rfl⟩))); (try simp only [Act.put, List.setIfInBounds_toArray, List.set_cons_zero, List.set_cons_succ])
          (first | (refine wpAnyH_take (i := 6) (oi := ?_) (v := ?_) ?_ (by kernel_rfl) (by kernel_rfl) (by kernel_rfl) ?_ ?_ (by assumption) ?_; rotate_left 2; (next => simp only [List.getElem?_toArray, List.getElem?_cons_succ, List.getElem?_cons_zero]; rfl); (next => exact fun _ _ _ h => h); (next => refine Or.inl ⟨by rfl, ?_⟩; intro w hSw; (try dsimp only at hSw); go_simp; (try (with_reducible rfl)))) | (refine wpAnyH_take (i := 6) (oi := ?_) (v := undef) ?_ (by kernel_rfl) (by kernel_rfl) (by kernel_rfl) ?_ ?_ (by assumption) ?_; rotate_left 1; (next => simp only [List.getElem?_toArray, List.getElem?_cons_succ, List.getElem?_cons_zero]; rfl); (next => exact fun _ _ _ h => h); (next => exact Or.inr ⟨by rfl, rfl⟩))); (try simp only [Act.put, List.setIfInBounds_toArray, List.set_cons_zero, List.set_cons_succ])
          refine wpAnyH_take (i := 7) (oi := ?_) (v := ?_) ?_ (by kernel_rfl) (by kernel_rfl) (by kernel_rfl) ?_ ?_ (by assumption) ?_; rotate_left 2; (next => simp only [List.getElem?_toArray, List.getElem?_cons_succ, List.getElem?_cons_zero]; rfl); (next => exact fun _ _ _ h => h); (next => refine Or.inl ⟨by rfl, ?_⟩; intro w_ hSw; (try dsimp only at hSw); have d0 := keep_cell hSw d0; go_simp; (try (with_reducible rfl))); (try simp only [Act.put, List.setIfInBounds_toArray, List.set_cons_zero, List.set_cons_succ])
          (first | (refine wpAnyH_take (i := 8) (oi := ?_) (v := ?_) ?_ (by kernel_rfl) (by kernel_rfl) (by kernel_rfl) ?_ ?_ (by assumption) ?_; rotate_left 2; (next => simp only [List.getElem?_toArray, List.getElem?_cons_succ, List.getElem?_cons_zero]; rfl); (next => exact fun _ _ _ h => h); (next => refine Or.inl ⟨by rfl, ?_⟩; intro w hSw; (try dsimp only at hSw); go_simp; (try (with_reducible rfl)))) | (refine wpAnyH_take (i := 8) (oi := ?_) (v := undef) ?_ (by kernel_rfl) (by kernel_rfl) (by kernel_rfl) ?_ ?_ (by assumption) ?_; rotate_left 1; (next => simp only [List.getElem?_toArray, List.getElem?_cons_succ, List.getElem?_cons_zero]; rfl); (next => exact fun _ _ _ h => h); (next => exact Or.inr ⟨by rfl, rfl⟩))); (try simp only [Act.put, List.setIfInBounds_toArray, List.set_cons_zero, List.set_cons_succ])
          refine wpAnyH_ready (rs := [2]) (by kernel_rfl) (by simp) ?_; refine AllReadyH.cons (o := ?_) ?_ (fun K hK => ?_) AllReadyH.nil; rotate_left 1; (next => simp only [List.getElem?_toArray, List.getElem?_cons_succ, List.getElem?_cons_zero]; rfl); go_simp
          (go_at_call 46; (with_reducible refine (HI2.out _ (IL.drew HIW.out)).mono ?_); rintro e w' ⟨rfl, rfl⟩)
          (try go_wp2_with fail); refine hK.out _ _ (S0) (fun hHeld => ?_); clear hK K; (try simp only [Act.put, List.setIfInBounds_toArray, List.set_cons_zero, List.set_cons_succ])
          (first | (refine wpAnyH_take (i := 9) (oi := ?_) (v := ?_) ?_ (by kernel_rfl) (by kernel_rfl) (by kernel_rfl) ?_ ?_ (by assumption) ?_; rotate_left 2; (next => simp only [List.getElem?_toArray, List.getElem?_cons_succ, List.getElem?_cons_zero]; rfl); (next => exact fun _ _ _ h => h); (next => refine Or.inl ⟨by rfl, ?_⟩; intro w hSw; (try dsimp only at hSw); go_simp; (try (with_reducible rfl)))) | (refine wpAnyH_take (i := 9) (oi := ?_) (v := undef) ?_ (by kernel_rfl) (by kernel_rfl) (by kernel_rfl) ?_ ?_ (by assumption) ?_; rotate_left 1; (next => simp only [List.getElem?_toArray, List.getElem?_cons_succ, List.getElem?_cons_zero]; rfl); (next => exact fun _ _ _ h => h); (next => exact Or.inr ⟨by rfl, rfl⟩))); (try simp only [Act.put, List.setIfInBounds_toArray, List.set_cons_zero, List.set_cons_succ])
          refine wpAnyH_done (by kernel_rfl) ?_ _
          go_wp2
          go_roundw
          case rel => exact ⟨k + 1, by omega, by omega, by go_num, bl_drew HBU.out⟩
          case measure => simp [intOf]; omega
        · have g1 : (v == 1) = false := beq_eq_false_iff_ne.2 h1
          have HI2 := hide (fun (u : World) (h : IL u A1 R.length R) => show Calls Try.prog 46 #[.slice A1 R.length c1, .int .i64 k] u fun e w' => e = .returned (.bool false) ∧ u = w' from by
            have := HII.out u h
            rwa [decide_eq_false h1] at this)
          clear h1
          go_upto_region 11 with fail
          have S0 := bl_drew (bl_refl wr)
          refine wp_region_held_drew (S := fun u : World => Below wr.heap.size wr u) (by kernel_rfl) (S0) (fun hHeld => ?_)
          (first | (refine wpAnyH_take (i := 0) (oi := ?_) (v := ?_) ?_ (by kernel_rfl) (by kernel_rfl) (by kernel_rfl) ?_ ?_ (by assumption) ?_; rotate_left 2; (next => simp only [List.getElem?_toArray, List.getElem?_cons_succ, List.getElem?_cons_zero]; rfl); (next => exact fun _ _ _ h => h); (next => refine Or.inl ⟨by rfl, ?_⟩; intro w hSw; (try dsimp only at hSw); go_simp; (try (with_reducible rfl)))) | (refine wpAnyH_take (i := 0) (oi := ?_) (v := undef) ?_ (by kernel_rfl) (by kernel_rfl) (by kernel_rfl) ?_ ?_ (by assumption) ?_; rotate_left 1; (next => simp only [List.getElem?_toArray, List.getElem?_cons_succ, List.getElem?_cons_zero]; rfl); (next => exact fun _ _ _ h => h); (next => exact Or.inr ⟨by rfl, rfl⟩))); (try simp only [Act.put, List.setIfInBounds_toArray, List.set_cons_zero, List.set_cons_succ])
          (first | (refine wpAnyH_take (i := 1) (oi := ?_) (v := ?_) ?_ (by kernel_rfl) (by kernel_rfl) (by kernel_rfl) ?_ ?_ (by assumption) ?_; rotate_left 2; (next => simp only [List.getElem?_toArray, List.getElem?_cons_succ, List.getElem?_cons_zero]; rfl); (next => exact fun _ _ _ h => h); (next => refine Or.inl ⟨by rfl, ?_⟩; intro w hSw; (try dsimp only at hSw); go_simp; (try (with_reducible rfl)))) | (refine wpAnyH_take (i := 1) (oi := ?_) (v := undef) ?_ (by kernel_rfl) (by kernel_rfl) (by kernel_rfl) ?_ ?_ (by assumption) ?_; rotate_left 1; (next => simp only [List.getElem?_toArray, List.getElem?_cons_succ, List.getElem?_cons_zero]; rfl); (next => exact fun _ _ _ h => h); (next => exact Or.inr ⟨by rfl, rfl⟩))); (try simp only [Act.put, List.setIfInBounds_toArray, List.set_cons_zero, List.set_cons_succ])
          (first | (refine wpAnyH_take (i := 3) (oi := ?_) (v := ?_) ?_ (by kernel_rfl) (by kernel_rfl) (by kernel_rfl) ?_ ?_ (by assumption) ?_; rotate_left 2; (next => simp only [List.getElem?_toArray, List.getElem?_cons_succ, List.getElem?_cons_zero]; rfl); (next => exact fun _ _ _ h => h); (next => refine Or.inl ⟨by rfl, ?_⟩; intro w hSw; (try dsimp only at hSw); go_simp; (try (with_reducible rfl)))) | (refine wpAnyH_take (i := 3) (oi := ?_) (v := undef) ?_ (by kernel_rfl) (by kernel_rfl) (by kernel_rfl) ?_ ?_ (by assumption) ?_; rotate_left 1; (next => simp only [List.getElem?_toArray, List.getElem?_cons_succ, List.getElem?_cons_zero]; rfl); (next => exact fun _ _ _ h => h); (next => exact Or.inr ⟨by rfl, rfl⟩))); (try simp only [Act.put, List.setIfInBounds_toArray, List.set_cons_zero, List.set_cons_succ])
          (first | (refine wpAnyH_take (i := 4) (oi := ?_) (v := ?_) ?_ (by kernel_rfl) (by kernel_rfl) (by kernel_rfl) ?_ ?_ (by assumption) ?_; rotate_left 2; (next => simp only [List.getElem?_toArray, List.getElem?_cons_succ, List.getElem?_cons_zero]; rfl); (next => exact fun _ _ _ h => h); (next => refine Or.inl ⟨by rfl, ?_⟩; intro w hSw; (try dsimp only at hSw); go_simp; (try (with_reducible rfl)))) | (refine wpAnyH_take (i := 4) (oi := ?_) (v := undef) ?_ (by kernel_rfl) (by kernel_rfl) (by kernel_rfl) ?_ ?_ (by assumption) ?_; rotate_left 1; (next => simp only [List.getElem?_toArray, List.getElem?_cons_succ, List.getElem?_cons_zero]; rfl); (next => exact fun _ _ _ h => h); (next => exact Or.inr ⟨by rfl, rfl⟩))); (try simp only [Act.put, List.setIfInBounds_toArray, List.set_cons_zero, List.set_cons_succ])
          (first | (refine wpAnyH_take (i := 5) (oi := ?_) (v := ?_) ?_ (by kernel_rfl) (by kernel_rfl) (by kernel_rfl) ?_ ?_ (by assumption) ?_; rotate_left 2; (next => simp only [List.getElem?_toArray, List.getElem?_cons_succ, List.getElem?_cons_zero]; rfl); (next => exact fun _ _ _ h => h); (next => refine Or.inl ⟨by rfl, ?_⟩; intro w hSw; (try dsimp only at hSw); go_simp; (try (with_reducible rfl)))) | (refine wpAnyH_take (i := 5) (oi := ?_) (v := undef) ?_ (by kernel_rfl) (by kernel_rfl) (by kernel_rfl) ?_ ?_ (by assumption) ?_; rotate_left 1; (next => simp only [List.getElem?_toArray, List.getElem?_cons_succ, List.getElem?_cons_zero]; rfl); (next => exact fun _ _ _ h => h); (next => exact Or.inr ⟨by rfl, rfl⟩))); (try simp only [Act.put, List.setIfInBounds_toArray, List.set_cons_zero, List.set_cons_succ])
          (first | (refine wpAnyH_take (i := 6) (oi := ?_) (v := ?_) ?_ (by kernel_rfl) (by kernel_rfl) (by kernel_rfl) ?_ ?_ (by assumption) ?_; rotate_left 2; (next => simp only [List.getElem?_toArray, List.getElem?_cons_succ, List.getElem?_cons_zero]; rfl); (next => exact fun _ _ _ h => h); (next => refine Or.inl ⟨by rfl, ?_⟩; intro w hSw; (try dsimp only at hSw); go_simp; (try (with_reducible rfl)))) | (refine wpAnyH_take (i := 6) (oi := ?_) (v := undef) ?_ (by kernel_rfl) (by kernel_rfl) (by kernel_rfl) ?_ ?_ (by assumption) ?_; rotate_left 1; (next => simp only [List.getElem?_toArray, List.getElem?_cons_succ, List.getElem?_cons_zero]; rfl); (next => exact fun _ _ _ h => h); (next => exact Or.inr ⟨by rfl, rfl⟩))); (try simp only [Act.put, List.setIfInBounds_toArray, List.set_cons_zero, List.set_cons_succ])
          refine wpAnyH_take (i := 7) (oi := ?_) (v := ?_) ?_ (by kernel_rfl) (by kernel_rfl) (by kernel_rfl) ?_ ?_ (by assumption) ?_; rotate_left 2; (next => simp only [List.getElem?_toArray, List.getElem?_cons_succ, List.getElem?_cons_zero]; rfl); (next => exact fun _ _ _ h => h); (next => refine Or.inl ⟨by rfl, ?_⟩; intro w_ hSw; (try dsimp only at hSw); have d0 := keep_cell hSw d0; go_simp; (try (with_reducible rfl))); (try simp only [Act.put, List.setIfInBounds_toArray, List.set_cons_zero, List.set_cons_succ])
          (first | (refine wpAnyH_take (i := 8) (oi := ?_) (v := ?_) ?_ (by kernel_rfl) (by kernel_rfl) (by kernel_rfl) ?_ ?_ (by assumption) ?_; rotate_left 2; (next => simp only [List.getElem?_toArray, List.getElem?_cons_succ, List.getElem?_cons_zero]; rfl); (next => exact fun _ _ _ h => h); (next => refine Or.inl ⟨by rfl, ?_⟩; intro w hSw; (try dsimp only at hSw); go_simp; (try (with_reducible rfl)))) | (refine wpAnyH_take (i := 8) (oi := ?_) (v := undef) ?_ (by kernel_rfl) (by kernel_rfl) (by kernel_rfl) ?_ ?_ (by assumption) ?_; rotate_left 1; (next => simp only [List.getElem?_toArray, List.getElem?_cons_succ, List.getElem?_cons_zero]; rfl); (next => exact fun _ _ _ h => h); (next => exact Or.inr ⟨by rfl, rfl⟩))); (try simp only [Act.put, List.setIfInBounds_toArray, List.set_cons_zero, List.set_cons_succ])
          refine wpAnyH_ready (rs := [2]) (by kernel_rfl) (by simp) ?_; refine AllReadyH.cons (o := ?_) ?_ (fun K hK => ?_) AllReadyH.nil; rotate_left 1; (next => simp only [List.getElem?_toArray, List.getElem?_cons_succ, List.getElem?_cons_zero]; rfl); go_simp
          (go_at_call 46; (with_reducible refine (HI2.out _ (IL.drew HIW.out)).mono ?_); rintro e w' ⟨rfl, rfl⟩)
          (try go_wp2_with fail); refine hK.out _ _ (S0) (fun hHeld => ?_); clear hK K; (try simp only [Act.put, List.setIfInBounds_toArray, List.set_cons_zero, List.set_cons_succ])
          (first | (refine wpAnyH_take (i := 9) (oi := ?_) (v := ?_) ?_ (by kernel_rfl) (by kernel_rfl) (by kernel_rfl) ?_ ?_ (by assumption) ?_; rotate_left 2; (next => simp only [List.getElem?_toArray, List.getElem?_cons_succ, List.getElem?_cons_zero]; rfl); (next => exact fun _ _ _ h => h); (next => refine Or.inl ⟨by rfl, ?_⟩; intro w hSw; (try dsimp only at hSw); go_simp; (try (with_reducible rfl)))) | (refine wpAnyH_take (i := 9) (oi := ?_) (v := undef) ?_ (by kernel_rfl) (by kernel_rfl) (by kernel_rfl) ?_ ?_ (by assumption) ?_; rotate_left 1; (next => simp only [List.getElem?_toArray, List.getElem?_cons_succ, List.getElem?_cons_zero]; rfl); (next => exact fun _ _ _ h => h); (next => exact Or.inr ⟨by rfl, rfl⟩))); (try simp only [Act.put, List.setIfInBounds_toArray, List.set_cons_zero, List.set_cons_succ])
          refine wpAnyH_done (by kernel_rfl) ?_ _
          go_wp2
          go_roundw
          case rel => exact ⟨k + 1, by omega, by omega, by go_num, bl_drew HBU.out⟩
          case measure => simp [intOf]; omega
      · go_wp2
        go_ret
        exact ⟨rfl, bl_call HBU.out HB4.out⟩
set_option maxRecDepth 100000 in
theorem lifted_FnBoxesOf (os : Os) (started : os.Started) (H : Type) (enc : TypeId × Value → H) :
    ReturnsInHanded {} Try.checked os 12 .any (Rows.fnBoxesOfSpec.pre6 enc Try.prog Try.f12 Rows.fnBoxesOfRow.domain false) (Rows.fnBoxesOfSpec.post enc Try.prog Try.f12 false true false false) := by
  refine returnsInHanded_of_change (C := Try.checked) own_knob started (by kernel_rfl) Try.func12
    (ChangeSpec.witness6 (enc := enc) (C := Try.checked) false ⟨#[], #[.slice none 0 0], []⟩ 8 (by kernel_rfl) (by kernel_rfl) (by kernel_rfl) (by kernel_rfl)) ?_
  intro W base args ds gs before hval0 hW hcnd _
  have hval : ∀ (j : Nat) t v, Try.f12.params[j]? = some t → args[j]? = some v → Value.okWide Try.prog W .any base t v := hval0
  have hW' := hW
  obtain ⟨p, q, hA0, hV, rfl, hfz, hnd⟩ := hW
  have hA : DataW.TrodAll enc Try.prog W 0 (fun _ => true) true Try.f12.params.toList args.toList ds p := hA0
  rw [Try.params12] at hA hval
  obtain ⟨v0, vs0, d0, ds0, p0, q0, hargs, rfl, rfl, zh0, r0⟩ := trodAll_cons hA
  obtain ⟨rfl, rfl, rfl⟩ := trodAll_nil r0
  obtain rfl : args = #[v0] := by cases args; simp_all
  obtain ⟨rfl, rfl⟩ := trodVars_none hV
  have zk0 := zh0
  have zl0 : ∀ x ∈ p0, x.block < W.heap.size := by obtain ⟨m, hm⟩ := zk0; exact DataW.trod_lt m _ _ _ hm
  clear hA0 hval0
  obtain ⟨a_code, n_code, c_code, rfl⟩ := okWide_slice Try.underlying47 (hval 0 47 v0 rfl rfl)
  obtain ⟨code, w_code⟩ := isRow_of Try.underlying47 Try.underlying5 (by kernel_rfl) zh0
  refine (walk_FnBoxesOf a_code n_code c_code code W w_code).mono fun e W' ⟨he, bel⟩ => ?_
  subst he
  exact ⟨_, rfl, _, _, _, [], _, [], hW', trodAll_mk1 (shut_bool Try.underlying4 _), (trodAll_cons_mk (Below.trod laid_out (by kernel_rfl) (of_decide_eq_true (by kernel_rfl)) zk0 bel zl0) trodAll_mk0), rfl, bel.frame _, fun h => by cases h⟩

/-- The statement. -/
theorem FnBoxesOf_holds : Rows.FnBoxesOfSaid :=
  OpenClaim.holds_of_wide 12 Try.f12 rfl rfl rfl rfl rfl rfl rfl ⟨rfl, rfl, rfl, rfl, rfl⟩ rfl rfl rfl rfl rfl (by kernel_rfl) Try.func12 (by unfold joinedFacts; rw [may_enter, lifts_final, make_cut]; kernel_rfl)
    (of_decide_eq_true (by kernel_rfl)) (by unfold Func.isWrapper; first | (rw [if_pos (by decide +kernel)]; kernel_rfl) | (rw [if_neg (by decide +kernel)]; exact ⟨rfl, rfl⟩))
    (fun os started H enc _ => lifted_FnBoxesOf os started H enc)
end Go.Proofs.Ytmolkppdfbldnaa
