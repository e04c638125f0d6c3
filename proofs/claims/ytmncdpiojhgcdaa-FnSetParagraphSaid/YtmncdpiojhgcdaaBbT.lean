/- The model's table of least costs of lines. -/
import Derived.Test.YtmncdpiojhgcdaaSg
import Derived.Test.YtmncdpiojhgcdaaSd
import Derived.Deep.OwnRows
namespace Go.Proofs.Ytmncdpiojhgcdaa
open Go.ChangeShapes Go.WideShapes Go.ChangeAt Go.RowKit
set_option linter.unusedVariables false
set_option linter.unusedSimpArgs false
set_option maxRecDepth 10000

/-- The table before the k-th step for the node t. -/
def tbA (g : Nat → Nat → Option Int) (t k j : Nat) : Option Dn := if j < t then dpD g j else if j = t then bst (dpD g) g t k else none
section
variable {g : Nat → Nat → Option Int}
theorem tbA_lt {t k j : Nat} (h : j < t) : tbA g t k j = dpD g j := if_pos h
theorem tbA_at {t k : Nat} : tbA g t k t = bst (dpD g) g t k := by unfold tbA; rw [if_neg (by omega), if_pos rfl]
theorem tbA_next {t : Nat} (h : 0 < t) (j : Nat) : tbA g t t j = tbA g (t + 1) 0 j := by
  unfold tbA
  rcases (by omega : j < t ∨ j = t ∨ j = t + 1 ∨ t + 1 < j) with e | e | e | e
  · rw [if_pos e, if_pos (by omega)]
  · subst e
    rw [if_neg (by omega), if_pos rfl, if_pos (by omega), dpD_succ h]
  · subst e
    rw [if_neg (by omega), if_neg (by omega), if_neg (by omega), if_pos rfl]
    rfl
  · rw [if_neg (by omega), if_neg (by omega), if_neg (by omega), if_neg (by omega)]
theorem tbA_same {t k : Nat} (h : bst (dpD g) g t (k + 1) = bst (dpD g) g t k) (j : Nat) : tbA g t k j = tbA g t (k + 1) j := by
  unfold tbA
  rw [h]
theorem tbA_put {t k : Nat} {d : Dn} (h : bst (dpD g) g t (k + 1) = some d) (j : Nat) : tbA g t (k + 1) j = if j = t then some d else tbA g t k j := by
  unfold tbA
  rw [h]
  rcases (by omega : j < t ∨ j = t ∨ t < j) with e | e | e
  · rw [if_pos e, if_neg (by omega), if_pos e]
  · subst e
    rw [if_neg (by omega), if_pos rfl, if_pos rfl]
  · rw [if_neg (by omega), if_neg (by omega), if_neg (by omega), if_neg (by omega), if_neg (by omega)]
theorem tbA_first (j : Nat) : (tbA g 1 0 j) = if j = 0 then some (0, 0, 0) else none := by
  unfold tbA
  rcases (by omega : j = 0 ∨ j = 1 ∨ 1 < j) with e | e | e
  · subst e; rfl
  · subst e; rfl
  · rw [if_neg (by omega), if_neg (by omega), if_neg (by omega)]
end
theorem tbA_skip {g : Nat → Nat → Option Int} {t : Nat} (h : dpD g t = none) (j : Nat) : tbA g t 0 j = tbA g (t + 1) 0 j := by
  unfold tbA
  rcases (by omega : j < t ∨ j = t ∨ j = t + 1 ∨ t + 1 < j) with e | e | e | e
  · rw [if_pos e, if_pos (by omega)]
  · subst e
    rw [if_neg (by omega), if_pos rfl, if_pos (by omega), h]
    rfl
  · subst e
    rw [if_neg (by omega), if_neg (by omega), if_neg (by omega), if_pos rfl]
    rfl
  · rw [if_neg (by omega), if_neg (by omega), if_neg (by omega), if_neg (by omega)]
theorem tbA_start {g : Nat → Nat → Option Int} (j : Nat) : tbA g 1 0 (j + 1) = none := by
  unfold tbA
  rw [if_neg (by omega)]
  split <;> rfl
def csE (d : Option Dn) : Int := match d with
  | some d => d.1
  | none => 0
def bsE (d : Option Dn) : Int := match d with
  | some d => (d.2.1 : Int) - 1
  | none => 0
/-- Three arrays that hold a table of items: item j is the node j + 1. -/
structure DpB (u : World) (c0 n : Nat) (ti tb : TypeId) (st : Nat → Option Dn) : Prop where
  rc : u.rowIs c0 ti n (fun j => .int .i64 (csE (st (j + 1))))
  rb : u.rowIs (c0 + 1) ti n (fun j => .int .i64 (bsE (st (j + 1))))
  rk : u.rowIs (c0 + 1 + 1) tb n (fun j => .bool (st (j + 1)).isSome)
section
variable {u u' : World} {c0 n m : Nat} {ti tb : TypeId} {st st' : Nat → Option Dn}
theorem DpB.below (h : DpB u c0 n ti tb st) (hb : Below m u u') (hm : u.heap.size ≤ m) : DpB u' c0 n ti tb st := by
  have hb := hb.mono hm
  exact ⟨h.rc.of_block (hb.block _ h.rc.lt), h.rb.of_block (hb.block _ h.rb.lt), h.rk.of_block (hb.block _ h.rk.lt)⟩
theorem DpB.congr (h : DpB u c0 n ti tb st) (e : ∀ j, st (j + 1) = st' (j + 1)) : DpB u c0 n ti tb st' :=
  ⟨h.rc.congr (fun i _ => by rw [e]), h.rb.congr (fun i _ => by rw [e]), h.rk.congr (fun i _ => by rw [e])⟩
theorem DpB.put (h : DpB u c0 n ti tb st) {t : Nat} (d : Dn) (z : Int) (hz : z = (d.2.1 : Int) - 1) (e : ∀ j, st' j = if j = t + 1 then some d else st j) : DpB (((u.setCell ⟨c0, t, none⟩ (.int .i64 d.1)).setCell ⟨c0 + 1, t, none⟩ (.int .i64 z)).setCell ⟨c0 + 1 + 1, t, none⟩ (.bool true)) c0 n ti tb st' := by
  subst hz
  have e' : ∀ j, st' (j + 1) = if j = t then some d else st (j + 1) := fun j => by
    rw [e]
    by_cases hj : j = t
    · rw [if_pos hj, if_pos (by omega)]
    · rw [if_neg hj, if_neg (by omega)]
  constructor
  · refine (((h.rc.set t _).setOther (a := ⟨c0 + 1, t, none⟩) (by show c0 ≠ c0 + 1; omega) _).setOther (a := ⟨c0 + 1 + 1, t, none⟩) (by show c0 ≠ c0 + 1 + 1; omega) _).congr (fun i _ => ?_)
    rw [e']
    split <;> rfl
  · refine (((h.rb.setOther (a := ⟨c0, t, none⟩) (by show c0 + 1 ≠ c0; omega) _).set t _).setOther (a := ⟨c0 + 1 + 1, t, none⟩) (by show c0 + 1 ≠ c0 + 1 + 1; omega) _).congr (fun i _ => ?_)
    rw [e']
    split <;> rfl
  · refine (((h.rk.setOther (a := ⟨c0, t, none⟩) (by show c0 + 1 + 1 ≠ c0; omega) _).setOther (a := ⟨c0 + 1, t, none⟩) (by show c0 + 1 + 1 ≠ c0 + 1; omega) _).set t _).congr (fun i _ => ?_)
    rw [e']
    split <;> rfl
theorem DpB.cells (h : DpB u c0 n ti tb st) {j : Nat} (hj : j < n) : u.cell? ⟨c0, j, none⟩ = some (.int .i64 (csE (st (j + 1)))) ∧ u.cell? ⟨c0 + 1, j, none⟩ = some (.int .i64 (bsE (st (j + 1)))) ∧ u.cell? ⟨c0 + 1 + 1, j, none⟩ = some (.bool (st (j + 1)).isSome) := ⟨h.rc.cell hj, h.rb.cell hj, h.rk.cell hj⟩
theorem DpB.fz (h : DpB u c0 n ti tb st) (j : Nat) : u.frozen? ⟨c0, j, none⟩ = false ∧ u.frozen? ⟨c0 + 1, j, none⟩ = false ∧ u.frozen? ⟨c0 + 1 + 1, j, none⟩ = false := ⟨h.rc.frozen j, h.rb.frozen j, h.rk.frozen j⟩
end
section
variable {L : List It} {C : Int → Int → Int × Bool} {M : Int}
theorem bstB_bd (hM : ∀ a b, -200000000 ≤ (C a b).1 ∧ (C a b).1 ≤ 200000000) {t k : Nat} {d : Dn} (hk : k ≤ 61) (e : bst (dpD (gB C)) (gB C) t k = some d) : -100000000000 ≤ d.1 ∧ d.1 ≤ 100000000000 := by
  obtain ⟨h1, x, n, h2, h3, h4, h5⟩ := bst_from e
  have := dpD_bd (g := gB C) (M := 200000000) (fun i j n e => gB_bd hM e) (d.2.1 + 1) (Nat.lt_succ_self _) h2
  have := gB_bd hM h3
  omega
theorem dpB_bd (hM : ∀ a b, -200000000 ≤ (C a b).1 ∧ (C a b).1 ≤ 200000000) {k : Nat} {d : Dn} (hk : k ≤ 61) (e : dpD (gB C) k = some d) : (-100000000000 ≤ d.1 ∧ d.1 ≤ 100000000000) ∧ d.2.2 ≤ k := by
  have := dpD_bd (g := gB C) (M := 200000000) (fun i j n e => gB_bd hM e) (k + 1) (Nat.lt_succ_self _) e
  omega
theorem gB_at {f : Int} {k q : Nat} (hf : f = (k : Int) - 1) (h : (C f q).2 = true) : gB C k (q + 1) = some (C f q).1 := by
  have := gB_yes (C := C) (i := k) (j := q + 1) (by rw [← hf, show (((q + 1 : Nat) : Int)) - 1 = (q : Int) by omega]; exact h)
  rw [← hf, show (((q + 1 : Nat) : Int)) - 1 = (q : Int) by omega] at this
  exact this
theorem gB_not {f : Int} {k q : Nat} (hf : f = (k : Int) - 1) (h : (C f q).2 = false) : gB C k (q + 1) = none :=
  gB_no (by rw [← hf, show (((q + 1 : Nat) : Int)) - 1 = (q : Int) by omega]; exact h)
end
theorem okL_q {L : List It} {a b : Int} (h : isOk L = true) : okL L a b = hasL L a b := by simp [okL, h]
theorem bool_infoB : (Try.prog.info? 4).map (fun i => (i.zero, i.size, i.bytes)) = some (some (.bool false), 1, 1) := by kernel_rfl
set_option maxHeartbeats 8000000 in
theorem bestTable_s (w : World) (A : Option Addr) (c : Nat) (L : List It) (d t : Int) (h : TL w A L.length L) (hok : isOk L = true) (hd : inB d 1 10000 = true) (ht : inB t 0 10000 = true) :
    Calls Try.prog 99 #[.slice A L.length c, .int .i64 d, .int .i64 t] w fun e w' => e = .returned (.tuple #[.slice (some ⟨w.heap.size, 0, none⟩) L.length L.length, .slice (some ⟨w.heap.size + 1, 0, none⟩) L.length L.length, .slice (some ⟨w.heap.size + 1 + 1, 0, none⟩) L.length L.length]) ∧ DpB w' w.heap.size L.length 3 4 (dpD (gB (fun a b => coL L a b d t))) ∧ Below w.heap.size w w' := by
  obtain ⟨i0, hi0, jz0, jz1, jz2⟩ := info_parts int_info
  obtain ⟨i1, hi1, kz0, kz1, kz2⟩ := info_parts bool_infoB
  have HI := hide h
  obtain ⟨hall, ⟨l0, l1⟩, _⟩ := isOk_iff.1 hok
  have HALL := hide hall
  have HOK := hide hok
  have CB := hide (fun a b => coL_bd hall a b d t)
  have HD := hide hd
  have HT := hide ht
  clear h hall hok hd ht
  go_enter Try.func99, Try.ntmps99
  go_upto_region 4 with (first | (refine wpList_make_row _ rfl _ _ _ rfl 3 i0 (.int .i64 0) Try.underlying30 hi0 jz0 jz1 rfl .i64 .i64 L.length rfl rfl (by rw [jz2]; omega) (by omega) ?_) | (refine wpList_make_row _ rfl _ _ _ rfl 4 i1 (.bool false) Try.underlying117 hi1 kz0 kz1 rfl .i64 .i64 L.length rfl rfl (by rw [kz2]; omega) (by omega) ?_) | fail)
  have D0 : DpB (((w.alloc (.cells (madeCells #[Value.int .i64 0] L.length) 3)).alloc (.cells (madeCells #[Value.int .i64 0] L.length) 3)).alloc (.cells (madeCells #[Value.bool false] L.length) 4)) w.heap.size L.length 3 4 (tbA (gB (fun a b => coL L a b d t)) 1 0) := by
    have a1 := World.rowIs_made w (.int .i64 0) L.length 3
    have a2 := World.rowIs_made (w.alloc (.cells (madeCells #[Value.int .i64 0] L.length) 3)) (.int .i64 0) L.length 3
    have a3 := World.rowIs_made ((w.alloc (.cells (madeCells #[Value.int .i64 0] L.length) 3)).alloc (.cells (madeCells #[Value.int .i64 0] L.length) 3)) (.bool false) L.length 4
    have e1 : ∀ (u : World) (o : Obj), (u.alloc o).heap.size = u.heap.size + 1 := fun u o => by simp
    rw [e1] at a2
    rw [e1, e1] at a3
    exact ⟨((a1.alloc _).alloc _).congr (fun i _ => by rw [tbA_start]; rfl), (a2.alloc _).congr (fun i _ => by rw [tbA_start]; rfl), a3.congr (fun i _ => by rw [tbA_start]; rfl)⟩
  have HB0 : Below w.heap.size w (((w.alloc (.cells (madeCells #[Value.int .i64 0] L.length) 3)).alloc (.cells (madeCells #[Value.int .i64 0] L.length) 3)).alloc (.cells (madeCells #[Value.bool false] L.length) 4)) := by repeat' (first | exact bl_refl _ | refine bl_alloc ?_ _)
  obtain ⟨u0, hu0⟩ : ∃ u, u = (((w.alloc (.cells (madeCells #[Value.int .i64 0] L.length) 3)).alloc (.cells (madeCells #[Value.int .i64 0] L.length) 3)).alloc (.cells (madeCells #[Value.bool false] L.length) 4)) := ⟨_, rfl⟩
  rw [← hu0] at D0 HB0 ⊢
  clear hu0
  have S0 := hide D0
  have B0 := hide HB0
  clear D0 HB0
  go_wp2
  go_loopw [12] (fun i u => ∃ q : Nat, q ≤ L.length ∧ i = .int .i64 q ∧ DpB u w.heap.size L.length 3 4 (tbA (gB (fun a b => coL L a b d t)) (q + 1) 0) ∧ Below w.heap.size w u) (fun i _ => L.length - (intOf i).toNat)
  case atStart => exact ⟨0, by omega, rfl, S0.out, B0.out⟩
  case round =>
    obtain ⟨q, hq, rfl, hst, hbl⟩ := hrel
    have HST := hide hst
    have HBL := hide hbl
    clear hst hbl S0 B0
    by_cases hlt : q < L.length
    · have IB := isBreak_s wr A c L (HI.out.below HBL.out) q hlt (by omega)
      have SKIP := hide (fun (h : mayE L q = false) => tbA_skip (dpB_none (L := L) (C := fun a b => coL L a b d t) (fun a b h => (coL_has h).1) (m := q + 1) (by omega) (by rw [Nat.add_sub_cancel]; exact h)))
      obtain ⟨fb0, hfb⟩ : ∃ fb, fb = mayE L q := ⟨_, rfl⟩
      rw [← hfb] at IB SKIP
      have HIB := hide IB
      clear IB hfb
      cases fb0
      · have N := hide (SKIP.out rfl)
        clear SKIP
        go_wp2_with fail; (with_reducible refine HIB.out.mono ?_); rintro e w' ⟨rfl, rfl⟩; have B1 := HBL; have S1 := HST
        go_wp2
        go_roundw
        case rel => exact ⟨q + 1, by omega, by go_num, S1.out.congr (fun j => N.out (j + 1)), B1.out⟩
        case measure => simp [intOf] <;> omega
      · clear SKIP
        go_wp2_with fail; (with_reducible refine HIB.out.mono ?_); rintro e w' ⟨rfl, rfl⟩; have B1 := HBL; have S1 := HST
        go_wp2
        go_loopw [13] (fun i u => ∃ (k : Nat) (f : Int), k ≤ q + 1 ∧ f = (k : Int) - 1 ∧ i = .int .i64 f ∧ DpB u w.heap.size L.length 3 4 (tbA (gB (fun a b => coL L a b d t)) (q + 1) k) ∧ Below w.heap.size w u) (fun i _ => ((q : Int) - intOf i).toNat)
        case atStart => exact ⟨0, -1, Nat.zero_le _, rfl, rfl, S1.out, B1.out⟩
        case round =>
          obtain ⟨k, f, hk, hf, rfl, hst, hbl⟩ := hrel
          have hfa : f ≤ (k : Int) - 1 := by omega
          have hfb : (k : Int) - 1 ≤ f := by omega
          have HF := hide hf
          clear hf
          have HS := hide hst
          have HB := hide hbl
          clear HST HBL S1 B1 HIB hst hbl
          by_cases hkt : k < q + 1
          · have hfq : f < (q : Int) := by omega
            have hqL : (q : Int) < (L.length : Int) := by omega
            have VL := validLine_s wr A L.length c L (HI.out.below HB.out) (by omega) f q (by omega) (by omega)
            rw [okL_q HOK.out] at VL
            have NOG := hide (fun (h : (coL L f q d t).2 = false) => gB_not (C := fun a b => coL L a b d t) HF.out h)
            have YESG := hide (fun (h : (coL L f q d t).2 = true) => gB_at (C := fun a b => coL L a b d t) HF.out h)
            have HASN := hide (fun (h : hasL L f q = false) => show (coL L f q d t).2 = false from by
              cases e : (coL L f q d t).2
              · rfl
              · rw [(coL_has e).1] at h; cases h)
            have LC := hide (fun (hln : hasL L f q = true) (u : World) (hu : TL u A L.length L) => lineCost_s u A c L hu HALL.out l1 f k q (by omega) d t hln HD.out HT.out)
            have vb := CB.out f q
            have BS := hide (show bst (dpD (gB (fun a b => coL L a b d t))) (gB (fun a b => coL L a b d t)) (q + 1) (k + 1) = rx (bst (dpD (gB (fun a b => coL L a b d t))) (gB (fun a b => coL L a b d t)) (q + 1) k) (dpD (gB (fun a b => coL L a b d t)) k) (gB (fun a b => coL L a b d t) k (q + 1)) k from rfl)
            have SAME := hide (fun h => tbA_same (g := gB (fun a b => coL L a b d t)) (t := q + 1) (k := k) h)
            have PUTA := hide (fun (x : Dn) h => tbA_put (g := gB (fun a b => coL L a b d t)) (t := q + 1) (k := k) (d := x) h)
            have sa := tbA_at (g := gB (fun a b => coL L a b d t)) (t := q + 1) (k := k)
            have BB := hide (fun y hy => bstB_bd (C := fun a b => coL L a b d t) CB.out (t := q + 1) (k := k) (d := y) (by omega) hy)
            have DBK := hide (fun y hy => (dpB_bd (C := fun a b => coL L a b d t) CB.out (k := k) (d := y) (by omega) hy).1)
            obtain ⟨v, hv⟩ : ∃ v, v = (coL L f q d t).1 := ⟨_, rfl⟩
            obtain ⟨fl, hfl⟩ : ∃ v, v = (coL L f q d t).2 := ⟨_, rfl⟩
            obtain ⟨hl, hhl⟩ : ∃ v, v = hasL L f q := ⟨_, rfl⟩
            rw [← hv, ← hfl, ← hhl] at LC
            rw [← hfl] at NOG YESG HASN
            rw [← hv] at YESG vb
            rw [← hhl] at VL HASN
            have HVL := hide VL
            clear hv hfl hhl VL
            have dkx : k = 0 ∨ 0 < k := Nat.eq_zero_or_pos k
            rcases dkx with hk0 | hk0
            · obtain rfl : f = -1 := by omega
              have D0 := hide (show dpD (gB (fun a b => coL L a b d t)) k = some (0, 0, 0) by rw [hk0]; exact dpD_zero)
              have A0 := hide (show bst (dpD (gB (fun a b => coL L a b d t))) (gB (fun a b => coL L a b d t)) (q + 1) k = none by rw [hk0]; rfl)
              have hfn : ¬ ((0 : Int) ≤ -1) := by omega
              have hfd : decide ((0 : Int) ≤ -1) = false := decide_eq_false hfn
              cases hl
              · have N := hide (fun j => SAME.out (by rw [BS.out, NOG.out (HASN.out rfl), rx_no_v]) (j + 1))
                clear NOG YESG HASN LC vb BS SAME PUTA sa BB DBK D0 A0
                go_wp2_with fail; (with_reducible refine HVL.out.mono ?_); rintro e u2 ⟨rfl, hb⟩; have B2 := hide (bl_call hb HB.out); have S2 := hide (HS.out.below hb (Nat.le_refl _)); clear hb
                go_wp2
                go_roundw
                case rel => exact ⟨k + 1, 0, by omega, by omega, by first | rfl | go_num, S2.out.congr N.out, B2.out⟩
                case measure => simp [intOf] <;> omega
              · have HLC := hide (LC.out rfl)
                clear LC HASN
                cases fl
                · have N := hide (fun j => SAME.out (by rw [BS.out, NOG.out rfl, rx_no_v]) (j + 1))
                  clear NOG YESG vb BS SAME PUTA sa BB DBK D0 A0
                  go_wp2_with fail; (with_reducible refine HVL.out.mono ?_); rintro e u2 ⟨rfl, hb⟩; have B2 := hide (bl_call hb HB.out); have S2 := hide (HS.out.below hb (Nat.le_refl _)); clear hb
                  go_wp2_with fail; (with_reducible refine (HLC.out _ (HI.out.below B2.out)).mono ?_); rintro e u3 ⟨rfl, hb⟩; have B3 := hide (bl_call hb B2.out); have S3 := hide (S2.out.below hb (Nat.le_refl _)); clear hb
                  go_wp2
                  go_roundw
                  case rel => exact ⟨k + 1, 0, by omega, by omega, by first | rfl | go_num, S3.out.congr N.out, B3.out⟩
                  case measure => simp [intOf] <;> omega
                · have P := hide (fun j => PUTA.out (v, 0, 1) (by rw [BS.out, A0.out, D0.out, YESG.out rfl, rx_new, hk0]; simp) j)
                  have hz : (-1 : Int) = (((v, 0, 1) : Dn).2.1 : Int) - 1 := by simp
                  have HZ := hide hz
                  have A1 := hide (show tbA (gB (fun a b => coL L a b d t)) (q + 1) k (q + 1) = none from sa.trans A0.out)
                  clear NOG YESG BS SAME PUTA sa BB DBK D0 A0 hz
                  go_wp2_with fail; (with_reducible refine HVL.out.mono ?_); rintro e u2 ⟨rfl, hb⟩; have B2 := hide (bl_call hb HB.out); have S2 := hide (HS.out.below hb (Nat.le_refl _)); clear hb
                  go_wp2_with fail; (with_reducible refine (HLC.out _ (HI.out.below B2.out)).mono ?_); rintro e u3 ⟨rfl, hb⟩; have B3 := hide (bl_call hb B2.out); have S3 := hide (S2.out.below hb (Nat.le_refl _)); clear hb
                  obtain ⟨ct, bt, kt⟩ := S3.out.cells (j := q) (by omega); obtain ⟨fc, fb, fk⟩ := S3.out.fz q
                  rw [A1.out] at kt
                  replace kt : u3.cell? ⟨w.heap.size + 1 + 1, q, none⟩ = some (.bool false) := kt
                  have S4 := hide (S3.out.put (t := q) (v, 0, 1) (-1) HZ.out P.out)
                  have B4 := hide (bl_set (bl_set (bl_set B3.out (p := ⟨w.heap.size, q, none⟩) (Nat.le_refl _) (.int .i64 (v))) (p := ⟨w.heap.size + 1, q, none⟩) (show w.heap.size ≤ w.heap.size + 1 by omega) (.int .i64 (-1))) (p := ⟨w.heap.size + 1 + 1, q, none⟩) (show w.heap.size ≤ w.heap.size + 1 + 1 by omega) (.bool true))
                  go_wp2
                  go_roundw
                  case rel => exact ⟨k + 1, 0, by omega, by omega, by first | rfl | go_num, S4.out, B4.out⟩
                  case measure => simp [intOf] <;> omega
            · obtain ⟨m, rfl⟩ : ∃ m, k = m + 1 := ⟨k - 1, by omega⟩
              obtain rfl : f = (m : Int) := by omega
              have hmq : m < q := by omega
              have hmL : (m : Int) < (L.length : Int) := by omega
              have hf0 : (0 : Int) ≤ (m : Int) := by omega
              obtain ⟨cm, bm, km⟩ := HS.out.cells (j := m) (by omega)
              have sk := tbA_lt (g := gB (fun a b => coL L a b d t)) (t := q + 1) (k := m + 1) (j := m + 1) (by omega)
              cases dk : dpD (gB (fun a b => coL L a b d t)) (m + 1) with
              | none =>
                have N := hide (fun j => SAME.out (by rw [BS.out, dk, rx_no_d]) (j + 1))
                rw [sk, dk] at km
                replace km : wr.cell? ⟨w.heap.size + 1 + 1, m, none⟩ = some (.bool false) := km
                clear NOG YESG HASN LC vb BS SAME PUTA sa BB DBK cm bm sk dk HVL hk0
                go_wp2
                go_roundw
                case rel => exact ⟨m + 1 + 1, (m : Int) + 1, by omega, by omega, by go_num, HS.out.congr N.out, HB.out⟩
                case measure => simp [intOf] <;> omega
              | some x =>
                have xb := DBK.out x dk
                rw [sk, dk] at km cm
                replace km : wr.cell? ⟨w.heap.size + 1 + 1, m, none⟩ = some (.bool true) := km
                replace cm : wr.cell? ⟨w.heap.size, m, none⟩ = some (.int .i64 x.1) := cm
                have DK := hide dk
                have SK := hide (sk.trans dk)
                clear bm sk dk DBK
                cases hl
                · have N := hide (fun j => SAME.out (by rw [BS.out, NOG.out (HASN.out rfl), rx_no_v]) (j + 1))
                  clear NOG YESG HASN LC vb BS SAME PUTA sa BB cm hk0
                  go_wp2_with fail; (with_reducible refine HVL.out.mono ?_); rintro e u2 ⟨rfl, hb⟩; have B2 := hide (bl_call hb HB.out); have S2 := hide (HS.out.below hb (Nat.le_refl _)); clear hb
                  go_wp2
                  go_roundw
                  case rel => exact ⟨m + 1 + 1, (m : Int) + 1, by omega, by omega, by go_num, S2.out.congr N.out, B2.out⟩
                  case measure => simp [intOf] <;> omega
                · have HLC := hide (LC.out rfl)
                  have ws : IntKind.i64.wrap (v + x.1) = v + x.1 := IntWalk.i64_in _ (by omega)
                  obtain ⟨xv, hxv⟩ : ∃ z, z = x.1 := ⟨_, rfl⟩
                  have HXV := hide hxv
                  rw [← hxv] at cm ws xb
                  clear LC HASN hxv hk0
                  cases fl
                  · have N := hide (fun j => SAME.out (by rw [BS.out, NOG.out rfl, rx_no_v]) (j + 1))
                    clear NOG YESG BS SAME PUTA sa BB
                    go_wp2_with fail; (with_reducible refine HVL.out.mono ?_); rintro e u2 ⟨rfl, hb⟩; have B2 := hide (bl_call hb HB.out); have S2 := hide (HS.out.below hb (Nat.le_refl _)); clear hb
                    have cm := (S2.out.cells (j := m) (by omega)).1
                    rw [SK.out] at cm
                    replace cm : u2.cell? ⟨w.heap.size, m, none⟩ = some (.int .i64 xv) := by rw [HXV.out]; exact cm
                    go_wp2_with fail; (with_reducible refine (HLC.out _ (HI.out.below B2.out)).mono ?_); rintro e u3 ⟨rfl, hb⟩; have B3 := hide (bl_call hb B2.out); have S3 := hide (S2.out.below hb (Nat.le_refl _)); clear hb
                    have cm := (S3.out.cells (j := m) (by omega)).1
                    rw [SK.out] at cm
                    replace cm : u3.cell? ⟨w.heap.size, m, none⟩ = some (.int .i64 xv) := by rw [HXV.out]; exact cm
                    go_wp2
                    go_roundw
                    case rel => exact ⟨m + 1 + 1, (m : Int) + 1, by omega, by omega, by go_num, S3.out.congr N.out, B3.out⟩
                    case measure => simp [intOf] <;> omega
                  · have BX := hide (show bst (dpD (gB (fun a b => coL L a b d t))) (gB (fun a b => coL L a b d t)) (q + 1) (m + 1 + 1) = rx (bst (dpD (gB (fun a b => coL L a b d t))) (gB (fun a b => coL L a b d t)) (q + 1) (m + 1)) (some x) (some v) (m + 1) by rw [BS.out, YESG.out rfl, DK.out])
                    have HZ := hide (show (m : Int) = (((v + xv, m + 1, x.2.2 + 1) : Dn).2.1 : Int) - 1 by simp)
                    clear BS YESG NOG
                    cases dt : bst (dpD (gB (fun a b => coL L a b d t))) (gB (fun a b => coL L a b d t)) (q + 1) (m + 1) with
                    | none =>
                      have P := hide (fun j => PUTA.out (v + xv, m + 1, x.2.2 + 1) (by rw [BX.out, dt, rx_new, HXV.out, Int.add_comm]) j)
                      have A1 := hide (sa.trans dt)
                      clear BX SAME PUTA sa BB dt
                      go_wp2_with fail; (with_reducible refine HVL.out.mono ?_); rintro e u2 ⟨rfl, hb⟩; have B2 := hide (bl_call hb HB.out); have S2 := hide (HS.out.below hb (Nat.le_refl _)); clear hb
                      go_wp2_with fail; (with_reducible refine (HLC.out _ (HI.out.below B2.out)).mono ?_); rintro e u3 ⟨rfl, hb⟩; have B3 := hide (bl_call hb B2.out); have S3 := hide (S2.out.below hb (Nat.le_refl _)); clear hb
                      have cm := (S3.out.cells (j := m) (by omega)).1; rw [SK.out] at cm; replace cm : u3.cell? ⟨w.heap.size, m, none⟩ = some (.int .i64 xv) := by rw [HXV.out]; exact cm
                      obtain ⟨ct, bt, kt⟩ := S3.out.cells (j := q) (by omega); obtain ⟨fc, fb, fk⟩ := S3.out.fz q
                      rw [A1.out] at kt
                      replace kt : u3.cell? ⟨w.heap.size + 1 + 1, q, none⟩ = some (.bool false) := kt
                      have S4 := hide (S3.out.put (t := q) (v + xv, m + 1, x.2.2 + 1) (m : Int) HZ.out P.out)
                      have B4 := hide (bl_set (bl_set (bl_set B3.out (p := ⟨w.heap.size, q, none⟩) (Nat.le_refl _) (.int .i64 (v + xv))) (p := ⟨w.heap.size + 1, q, none⟩) (show w.heap.size ≤ w.heap.size + 1 by omega) (.int .i64 ((m : Int)))) (p := ⟨w.heap.size + 1 + 1, q, none⟩) (show w.heap.size ≤ w.heap.size + 1 + 1 by omega) (.bool true))
                      go_wp2
                      go_roundw
                      case rel => exact ⟨m + 1 + 1, (m : Int) + 1, by omega, by omega, by go_num, S4.out, B4.out⟩
                      case measure => simp [intOf] <;> omega
                    | some y =>
                      have A1 := hide (sa.trans dt)
                      obtain ⟨yv, hyv⟩ : ∃ z, z = y.1 := ⟨_, rfl⟩
                      have HYV := hide hyv
                      have yb := BB.out y dt
                      rw [← hyv] at yb
                      by_cases hlq : v + xv < yv
                      · have P := hide (fun j => PUTA.out (v + xv, m + 1, x.2.2 + 1) (by rw [BX.out, dt, rx_less (by rw [← HXV.out, ← HYV.out]; omega), HXV.out, Int.add_comm]) j)
                        have hdd : decide (v + xv < yv) = true := decide_eq_true hlq
                        clear BX SAME PUTA sa BB dt hyv
                        go_wp2_with fail; (with_reducible refine HVL.out.mono ?_); rintro e u2 ⟨rfl, hb⟩; have B2 := hide (bl_call hb HB.out); have S2 := hide (HS.out.below hb (Nat.le_refl _)); clear hb
                        go_wp2_with fail; (with_reducible refine (HLC.out _ (HI.out.below B2.out)).mono ?_); rintro e u3 ⟨rfl, hb⟩; have B3 := hide (bl_call hb B2.out); have S3 := hide (S2.out.below hb (Nat.le_refl _)); clear hb
                        have cm := (S3.out.cells (j := m) (by omega)).1; rw [SK.out] at cm; replace cm : u3.cell? ⟨w.heap.size, m, none⟩ = some (.int .i64 xv) := by rw [HXV.out]; exact cm
                        obtain ⟨ct, bt, kt⟩ := S3.out.cells (j := q) (by omega); obtain ⟨fc, fb, fk⟩ := S3.out.fz q
                        rw [A1.out] at kt ct
                        replace kt : u3.cell? ⟨w.heap.size + 1 + 1, q, none⟩ = some (.bool true) := kt
                        replace ct : u3.cell? ⟨w.heap.size, q, none⟩ = some (.int .i64 yv) := by rw [HYV.out]; exact ct
                        have S4 := hide (S3.out.put (t := q) (v + xv, m + 1, x.2.2 + 1) (m : Int) HZ.out P.out)
                        have B4 := hide (bl_set (bl_set (bl_set B3.out (p := ⟨w.heap.size, q, none⟩) (Nat.le_refl _) (.int .i64 (v + xv))) (p := ⟨w.heap.size + 1, q, none⟩) (show w.heap.size ≤ w.heap.size + 1 by omega) (.int .i64 ((m : Int)))) (p := ⟨w.heap.size + 1 + 1, q, none⟩) (show w.heap.size ≤ w.heap.size + 1 + 1 by omega) (.bool true))
                        go_wp2
                        go_roundw
                        case rel => exact ⟨m + 1 + 1, (m : Int) + 1, by omega, by omega, by go_num, S4.out, B4.out⟩
                        case measure => simp [intOf] <;> omega
                      · have N := hide (fun j => SAME.out (by rw [BX.out, dt, rx_keep (by rw [← HXV.out, ← HYV.out]; omega)]) (j + 1))
                        have hdd : decide (v + xv < yv) = false := decide_eq_false hlq
                        clear BX SAME PUTA sa BB dt hyv HZ
                        go_wp2_with fail; (with_reducible refine HVL.out.mono ?_); rintro e u2 ⟨rfl, hb⟩; have B2 := hide (bl_call hb HB.out); have S2 := hide (HS.out.below hb (Nat.le_refl _)); clear hb
                        go_wp2_with fail; (with_reducible refine (HLC.out _ (HI.out.below B2.out)).mono ?_); rintro e u3 ⟨rfl, hb⟩; have B3 := hide (bl_call hb B2.out); have S3 := hide (S2.out.below hb (Nat.le_refl _)); clear hb
                        have cm := (S3.out.cells (j := m) (by omega)).1; rw [SK.out] at cm; replace cm : u3.cell? ⟨w.heap.size, m, none⟩ = some (.int .i64 xv) := by rw [HXV.out]; exact cm
                        obtain ⟨ct, bt, kt⟩ := S3.out.cells (j := q) (by omega); obtain ⟨fc, fb, fk⟩ := S3.out.fz q
                        rw [A1.out] at kt ct
                        replace kt : u3.cell? ⟨w.heap.size + 1 + 1, q, none⟩ = some (.bool true) := kt
                        replace ct : u3.cell? ⟨w.heap.size, q, none⟩ = some (.int .i64 yv) := by rw [HYV.out]; exact ct
                        go_wp2
                        go_roundw
                        case rel => exact ⟨m + 1 + 1, (m : Int) + 1, by omega, by omega, by go_num, S3.out.congr N.out, B3.out⟩
                        case measure => simp [intOf] <;> omega
          · have hkq : k = q + 1 := by omega
            have N := hide (show DpB wr w.heap.size L.length 3 4 (tbA (gB (fun a b => coL L a b d t)) (q + 1 + 1) 0) from HS.out.congr (fun j => by rw [hkq]; exact tbA_next (by omega) (j + 1)))
            have g0 : ¬ f < (q : Int) := by omega
            clear hkq HS
            go_wp2
            go_roundw
            case rel => exact ⟨q + 1, by omega, by go_num, N.out, HB.out⟩
            case measure => simp [intOf] <;> omega
    · obtain rfl : q = L.length := by omega
      have N := hide (show DpB wr w.heap.size L.length 3 4 (dpD (gB (fun a b => coL L a b d t))) from ⟨HST.out.rc.congr (fun i hi => by rw [tbA_lt (by omega)]), HST.out.rb.congr (fun i hi => by rw [tbA_lt (by omega)]), HST.out.rk.congr (fun i hi => by rw [tbA_lt (by omega)])⟩)
      clear HST
      go_wp2
      refine bodyPost_ret (v := .tuple #[.slice (some ⟨w.heap.size, 0, none⟩) L.length L.length, .slice (some ⟨w.heap.size + 1, 0, none⟩) L.length L.length, .slice (some ⟨w.heap.size + 1 + 1, 0, none⟩) L.length L.length]) (by simp [results, Try.results99, go_sem]) rfl ⟨rfl, N.out, HBL.out⟩
end Go.Proofs.Ytmncdpiojhgcdaa
