/- The largest height of given columns, in the program and in its model. -/
import Derived.Test.YtkclecfjpabplaaRf
import Derived.Test.YtkclecfjpabplaaColW
import Derived.Test.YtkclecfjpabplaaEnds
namespace Go.Proofs.Ytkclecfjpabplaa
open Go.ChangeShapes Go.WideShapes Go.ChangeAt Go.RowKit Go.Shelf
set_option linter.unusedVariables false
attribute [local go_sem] Oper.semAt_some

theorem foldr_bd {b : Int} : ∀ {m : List Int}, (∀ x ∈ m, 0 ≤ x ∧ x ≤ b) → 0 ≤ m.foldr (fun x a => x + a) 0 ∧ m.foldr (fun x a => x + a) 0 ≤ b * (m.length : Int)
  | [], _ => by simp
  | x :: m, h => by
    have h1 := h x (List.mem_cons_self ..)
    have h2 := foldr_bd (m := m) (fun y hy => h y (List.mem_cons_of_mem _ hy))
    simp only [List.foldr_cons, List.length_cons, Int.natCast_add, Int.mul_add]
    simp only [Int.natCast_one, Int.mul_one]
    omega
theorem sm_bd {l : List Int} {b : Int} (h : ∀ j, j < l.length → 0 ≤ ng l j ∧ ng l j ≤ b) (hb : 0 ≤ b) (s t : Nat) : 0 ≤ sm l s t ∧ sm l s t ≤ b * (l.length : Int) := by
  have h1 := foldr_bd (b := b) (m := (l.drop s).take (t - s)) (fun x hx => by
    obtain ⟨j, hj, e⟩ := List.getElem_of_mem (List.mem_of_mem_drop (List.mem_of_mem_take hx))
    have := h j hj
    rwa [ng_lt hj, e] at this)
  have h2 : (((l.drop s).take (t - s)).length : Int) ≤ (l.length : Int) := by
    rw [List.length_take, List.length_drop]; omega
  have h3 := Int.mul_le_mul_of_nonneg_left h2 hb
  unfold sm
  omega
/-- The largest sum among the first k pieces. -/
def mxP (l E : List Int) : Nat → Int
  | 0 => 0
  | k + 1 => max (mxP l E k) (sm l (frm 0 E k).toNat (ng E k).toNat)
theorem mxP_bd {l E : List Int} {b : Int} (h : ∀ j, j < l.length → 0 ≤ ng l j ∧ ng l j ≤ b) (hb : 0 ≤ b) : ∀ k, 0 ≤ mxP l E k ∧ mxP l E k ≤ b * (l.length : Int)
  | 0 => by
    have := Int.mul_nonneg hb (Int.natCast_nonneg l.length)
    simp only [mxP]; omega
  | k + 1 => by
    have h1 := mxP_bd (E := E) h hb k
    have h2 := sm_bd h hb (frm 0 E k).toNat (ng E k).toNat
    simp only [mxP]; omega
/-- The same over a list of pieces. -/
def mxL (l E : List Int) (pre : List (Fin E.length)) : Int := pre.foldl (fun m x => max m (sm l (frm 0 E x.val).toNat (ng E x.val).toNat)) 0
theorem mxL_nil {l E : List Int} : mxL l E [] = 0 := rfl
theorem mxL_snoc {l E : List Int} {pre : List (Fin E.length)} {x : Fin E.length} : mxL l E (pre ++ [x]) = max (mxL l E pre) (sm l (frm 0 E x.val).toNat (ng E x.val).toNat) := by simp [mxL]
theorem mxL_pcs {l E : List Int} : ∀ {k : Nat}, k ≤ E.length → mxL l E (pcs E.length k) = mxP l E k
  | 0, _ => by rw [pcs_zero]; rfl
  | k + 1, h => by
    rw [pcs_succ (show k < E.length by omega), mxL_snoc, mxL_pcs (by omega)]
    rfl
theorem mxL_bd {l E : List Int} {b : Int} (h : ∀ j, j < l.length → 0 ≤ ng l j ∧ ng l j ≤ b) (hb : 0 ≤ b) (pre : List (Fin E.length)) : 0 ≤ mxL l E pre ∧ mxL l E pre ≤ b * (l.length : Int) := by
  unfold mxL
  have key : ∀ (q : List (Fin E.length)) (m : Int), 0 ≤ m → m ≤ b * (l.length : Int) → 0 ≤ q.foldl (fun m x => max m (sm l (frm 0 E x.val).toNat (ng E x.val).toNat)) m ∧ q.foldl (fun m x => max m (sm l (frm 0 E x.val).toNat (ng E x.val).toNat)) m ≤ b * (l.length : Int) := fun q => by
    induction q with
    | nil => intro m h0 h1; exact ⟨h0, h1⟩
    | cons x q ih =>
      intro m h0 h1
      have h2 := sm_bd h hb (frm 0 E x.val).toNat (ng E x.val).toNat
      exact ih _ (show 0 ≤ max m (sm l (frm 0 E x.val).toNat (ng E x.val).toNat) by omega) (show max m (sm l (frm 0 E x.val).toNat (ng E x.val).toNat) ≤ b * (l.length : Int) by omega)
  have := Int.mul_nonneg hb (Int.natCast_nonneg l.length)
  exact key pre 0 (Int.le_refl _) this
/-- What CheckColumns answers. -/
noncomputable def ccV (l E : List Int) : Int × Bool := if okH l && ve E l.length then (mxP l E E.length, true) else (0, false)
theorem ccV_no {l E : List Int} (h : (okH l && ve E l.length) = false) : ccV l E = (0, false) := by unfold ccV; rw [h]; rfl
theorem ccV_yes {l E : List Int} (h : (okH l && ve E l.length) = true) : ccV l E = (mxP l E E.length, true) := by unfold ccV; rw [h]; rfl
theorem pv_frm0 (E : List Int) (k : Nat) : pv0 E k = frm 0 E k := by cases k <;> rfl

set_option maxHeartbeats 2000000 in
theorem CheckColumns_s (w : World) (A B : Option Addr) (n c m d : Nat) (l E : List Int) (ha : IL w A n l) (hE : IL w B m E) (hn : n ≤ 1048576) (hm : m ≤ 1048576) :
    Calls Try.prog 17 #[.slice A n c, .slice B m d] w fun e w' => e = .returned (.tuple #[.int .i64 (ccV l E).1, .bool (ccV l E).2]) ∧ ∃ j, w.drewN j = w' := by
  obtain rfl : n = l.length := ha.1
  obtain rfl : m = E.length := hE.1
  have HA := hide ha
  have HE := hide hE
  clear ha hE
  have VH := hide (validHeights_s w A l.length c l HA.out (by omega))
  cases qa : okH l
  · have O := hide (ccV_no (l := l) (E := E) (by rw [qa]; rfl))
    have qa' : okLen l 0 40 1 1000 = false := qa
    rw [qa'] at VH
    rw [O.out]
    go_enter Try.func17, Try.ntmps17
    go_wp2_with (go_at_call 55; refine (VH.out).mono ?_; rintro e w' ⟨rfl, rfl⟩)
    go_ret2
    exact ⟨rfl, 0, rfl⟩
  have qa' : okLen l 0 40 1 1000 = true := qa
  rw [qa'] at VH
  obtain ⟨k1, k2⟩ := okH_iff.1 qa
  have BAD := hide (fun (h : ve E l.length = false) => ccV_no (l := l) (E := E) (by rw [h, Bool.and_false]))
  have YES := hide (fun (h : ve E l.length = true) => ccV_yes (l := l) (E := E) (by rw [qa, h]; rfl))
  have SB := hide (fun (s t : Nat) => sm_bd (l := l) (b := 1000) (fun j hj => by have := k2 j hj; omega) (by omega) s t)
  have MB := hide (fun (k : Nat) => mxP_bd (l := l) (E := E) (b := 1000) (fun j hj => by have := k2 j hj; omega) (by omega) k)
  obtain ⟨W, hW⟩ : ∃ W, W = ccV l E := ⟨_, rfl⟩
  rw [← hW] at BAD YES ⊢
  have K2 := hide k2
  clear qa qa' k2 hW
  go_enter Try.func17, Try.ntmps17
  go_wp2_with (go_at_call 55; refine (VH.out).mono ?_; rintro e w' ⟨rfl, rfl⟩)
  clear VH
  go_loopw [6, 7, 8] (fun mo fr i u => ∃ (k f j : Nat), k ≤ E.length ∧ i = .int .i64 k ∧ fr = .int .i64 f ∧ frm 0 E k = f ∧ f ≤ l.length ∧ mo = .int .i64 (mxP l E k) ∧ AscTo E k ∧ w.drewN j = u) (fun _ _ i _ => E.length - (intOf i).toNat)
  case atStart => exact ⟨0, 0, 0, by omega, rfl, rfl, rfl, by omega, rfl, AscTo.zero _, rfl⟩
  case round =>
    obtain ⟨k, f, j, hk, rfl, rfl, hfr, hfl, rfl, has, rfl⟩ := hrel
    have mb := MB.out k
    by_cases hlt : k < E.length
    · obtain ⟨b, o, rfl, hb0, c0⟩ := HE.out.at_ hlt
      have ST := hide (fun h => AscTo.step has h)
      have VB := hide (fun h => ve_bad (l := E) (n := l.length) hlt h)
      have SS := hide (show mxP l E (k + 1) = max (mxP l E k) (sm l (frm 0 E k).toNat (ng E k).toNat) from rfl)
      have FS := hide (frm_succ 0 E k)
      rw [pv_frm0] at ST VB
      rw [hfr] at ST VB SS
      obtain ⟨y, hy⟩ : ∃ y, y = ng E k := ⟨_, rfl⟩
      rw [← hy] at c0 ST VB SS FS
      obtain ⟨z, hz⟩ : ∃ z, z = mxP l E k := ⟨_, rfl⟩
      rw [← hz] at SS mb ⊢
      clear hy hz has hfr
      rcases (by omega : y ≤ f ∨ (f : Int) < y ∧ (l.length : Int) < y ∨ (f : Int) < y ∧ y ≤ l.length) with q | ⟨q, q1⟩ | ⟨q, q1⟩
      · have O := hide (BAD.out (VB.out (.inl q)))
        clear BAD YES VB SS ST
        go_wp2
        go_ret2
        exact ⟨by rw [O.out]; rfl, _, rfl⟩
      · have O := hide (BAD.out (VB.out (.inr q1)))
        clear BAD YES VB SS ST
        go_wp2
        go_ret2
        exact ⟨by rw [O.out]; rfl, _, rfl⟩
      · obtain ⟨t, rfl⟩ : ∃ t : Nat, y = t := ⟨y.toNat, by omega⟩
        have hft : f < t := by omega
        have htl : t ≤ l.length := by omega
        rw [Int.toNat_natCast, Int.toNat_natCast] at SS
        have ST1 := hide (ST.out q)
        clear ST VB BAD YES q q1
        go_wp2
        go_loopw [9, 10] (fun s i u => ∃ (p i2 : Nat), f ≤ p ∧ p ≤ t ∧ i = .int .i64 p ∧ s = .int .i64 (sm l f p) ∧ w.drewN i2 = u) (fun _ i _ => t - (intOf i).toNat)
        case atStart => exact ⟨f, j, by omega, by omega, rfl, by rw [sm_same], rfl⟩
        case round =>
          obtain ⟨p, i2, hfp, hpt, rfl, rfl, rfl⟩ := hrel
          have sb := SB.out f p
          by_cases hp : p < t
          · obtain ⟨b', o', rfl, hb1, c1⟩ := HA.out.at_ (i := p) (by omega)
            obtain ⟨x0, x1⟩ := K2.out p (by omega)
            have NX := hide (sm_step (l := l) hfp (by omega : p < l.length))
            obtain ⟨x, hx⟩ : ∃ x, x = ng l p := ⟨_, rfl⟩
            obtain ⟨v, hv⟩ : ∃ v, v = sm l f p := ⟨_, rfl⟩
            rw [← hx] at c1 x0 x1 NX
            rw [← hv] at sb NX ⊢
            clear hx hv
            go_wp2
            go_roundw
            case rel => exact ⟨p + 1, _, by omega, by omega, by go_num, by rw [NX.out], rfl⟩
            case measure => simp [intOf]; omega
          · obtain rfl : p = t := by omega
            obtain ⟨v, hv⟩ : ∃ v, v = sm l f p := ⟨_, rfl⟩
            rw [← hv] at sb SS ⊢
            clear hv
            rcases (by omega : v ≤ z ∨ z < v) with e1 | e1
            · have S1 := hide (show mxP l E (k + 1) = z by rw [SS.out]; omega)
              clear SS
              go_wp2
              go_roundw
              case rel => exact ⟨k + 1, p, _, by omega, by go_num, rfl, FS.out, htl, by rw [S1.out], ST1.out, rfl⟩
              case measure => simp [intOf]; omega
            · have S1 := hide (show mxP l E (k + 1) = v by rw [SS.out]; omega)
              clear SS
              go_wp2
              go_roundw
              case rel => exact ⟨k + 1, p, _, by omega, by go_num, rfl, FS.out, htl, by rw [S1.out], ST1.out, rfl⟩
              case measure => simp [intOf]; omega
    · obtain rfl : k = E.length := by omega
      have VA := hide (ve_all (l := E) (n := l.length) has)
      unfold lst at VA
      rw [pv_frm0, hfr] at VA
      rcases (by omega : f = l.length ∨ f < l.length) with q | q
      · have O := hide (YES.out (by rw [VA.out, q]; simp))
        obtain ⟨z, hz⟩ : ∃ z, z = mxP l E E.length := ⟨_, rfl⟩
        rw [← hz] at mb O ⊢
        clear BAD YES VA hfr has hz
        go_wp2
        go_ret2
        exact ⟨by rw [O.out]; rfl, _, rfl⟩
      · have O := hide (BAD.out (by rw [VA.out]; exact decide_eq_false (by omega)))
        have q2 : ((f : Int) == (l.length : Int)) = false := beq_eq_false_iff_ne.2 (by omega)
        clear BAD YES VA hfr has
        go_wp2
        go_ret2
        exact ⟨by rw [O.out]; rfl, _, rfl⟩
end Go.Proofs.Ytkclecfjpabplaa
