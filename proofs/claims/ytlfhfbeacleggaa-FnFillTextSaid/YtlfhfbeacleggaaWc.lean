/- What given lines of words cost, in the program and in its model. -/
import Derived.Test.YtlfhfbeacleggaaTot
import Derived.Test.YtlfhfbeacleggaaEnds
import Derived.BigQuiet
namespace Go.Proofs.Ytlfhfbeacleggaa
open Go.ChangeShapes Go.WideShapes Go.ChangeAt Go.RowKit
set_option linter.unusedVariables false
set_option linter.unusedSimpArgs false
open Classical

/-- The words from the f-th up to the t-th. -/
def sub (l : List ByteArray) (f t : Nat) : List ByteArray := (l.drop f).take (t - f)
theorem sg_sub {l : List ByteArray} {f t i : Nat} (hi : i < t - f) : sg (sub l f t) i = sg l (f + i) := by
  simp [sub, sg, List.getD, List.getElem?_take, hi, List.getElem?_drop]
theorem sub_len {l : List ByteArray} {f t : Nat} (ht : t ≤ l.length) : (sub l f t).length = t - f := by simp [sub]; omega
theorem SL.sub {w : World} {b o : Nat} {l : List ByteArray} {f t : Nat} (h : SL w (some ⟨b, o, none⟩) l.length l) (hft : f ≤ t) (ht : t ≤ l.length) : SL w (some ⟨b, o + f, none⟩) (t - f) (sub l f t) := by
  refine ⟨(sub_len ht).symm, fun h0 => ?_⟩
  obtain ⟨b', o', e, hb, hc⟩ := h.2 (by omega)
  injection e with e
  cases e
  refine ⟨b, _, rfl, hb, fun i hi => ?_⟩
  rw [sg_sub hi, ← hc (f + i) (by omega), Nat.add_assoc o]
theorem WTo.sub {l : List ByteArray} {f t : Nat} (h : WTo l l.length) (ht : t ≤ l.length) : WTo (sub l f t) (sub l f t).length := fun j hj => by
  rw [sub_len ht] at hj
  rw [sg_sub hj]
  exact h _ (by omega)
/-- The rest of a line of words f to t. -/
def rs (l : List ByteArray) (wd : Int) (f t : Nat) : Int := wd + 1 - (sm (sub l f t) (sub l f t).length : Int) - ((sub l f t).length : Int)
theorem rs_bd {l : List ByteArray} {wd : Int} {f t : Nat} (h : WOk l) (ht : t ≤ l.length) : wd - 900 ≤ rs l wd f t ∧ rs l wd f t ≤ wd + 1 := by
  have a := sm_le (WTo.sub (f := f) h.1 ht)
  have b := sub_len (f := f) ht
  have c := h.2
  unfold rs
  omega
theorem sq_bd {z : Int} (h0 : 0 ≤ z) (h : z ≤ 61) : 0 ≤ z * z ∧ z * z ≤ 3721 := by
  constructor
  · exact Int.mul_nonneg h0 h0
  · exact Int.le_trans (Int.mul_le_mul h h h0 (by omega)) (by decide)
/-- What a line costs, and whether it is possible. -/
def cW (l : List ByteArray) (wd : Int) (f t : Int) : Int × Bool :=
  if 0 ≤ f ∧ f < t ∧ t ≤ l.length ∧ 0 ≤ rs l wd f.toNat t.toNat then (if t = l.length then 0 else rs l wd f.toNat t.toNat * rs l wd f.toNat t.toNat, true) else (0, false)
theorem cW_no {l : List ByteArray} {wd : Int} {f t : Nat} (h : rs l wd f t < 0) : cW l wd f t = (0, false) := by
  unfold cW
  rw [if_neg (by simp only [Int.toNat_natCast]; omega)]
theorem cW_last {l : List ByteArray} {wd : Int} {f t : Nat} (h1 : f < t) (h : 0 ≤ rs l wd f t) (ht : t = l.length) : cW l wd f t = (0, true) := by
  unfold cW
  rw [if_pos (by simp only [Int.toNat_natCast]; omega), if_pos (by omega)]
theorem cW_mid {l : List ByteArray} {wd : Int} {f t : Nat} (h1 : f < t) (h : 0 ≤ rs l wd f t) (ht : t < l.length) : cW l wd f t = (rs l wd f t * rs l wd f t, true) := by
  unfold cW
  rw [if_pos (by simp only [Int.toNat_natCast]; omega), if_neg (by omega)]
  simp only [Int.toNat_natCast]
theorem cW_bd {l : List ByteArray} {wd : Int} (hw : wd ≤ 60) (f t : Int) : -8000000000 ≤ (cW l wd f t).1 ∧ (cW l wd f t).1 ≤ 8000000000 := by
  unfold cW
  split
  · next h =>
    have hr : rs l wd f.toNat t.toNat ≤ 61 := by unfold rs; omega
    have := sq_bd h.2.2.2 hr
    dsimp only
    split <;> omega
  · dsimp only; omega
set_option maxHeartbeats 1000000 in
theorem wrapped1_i (w : World) (b1 b2 c : Nat) (A : Option Addr) (l : List ByteArray) (wd x : Int) (f t : Nat) (h1 : w.cell? ⟨b1, 0, none⟩ = some (.slice A l.length c)) (h2 : w.cell? ⟨b2, 0, none⟩ = some (.int .i64 wd)) (ha : SL w A l.length l) (hc : l.length ≤ c) (hw : WOk l) (h0 : 20 ≤ wd) (h60 : wd ≤ 60) (hft : f < t) (htl : t ≤ l.length) :
    Calls Try.prog 147 #[.int .i64 x, .int .i64 f, .int .i64 t, .pointer (some ⟨b1, 0, none⟩), .pointer (some ⟨b2, 0, none⟩)] w fun e w' => e = .returned (.tuple #[.int .i64 (cW l wd f t).1, .bool (cW l wd f t).2]) ∧ Below w.heap.size w w' := by
  obtain ⟨b, o, rfl, hb0, hc0⟩ := ha.at_ (i := 0) (by omega)
  have CS := fun (k d : Nat) => restOf_i (w.drewN k) (some ⟨b, o + f, none⟩) (t - f) d _ wd ((ha.sub (f := f) (t := t) (by omega) htl).drewN k) (WTo.sub hw.1 htl) (by rw [sub_len htl]; have := hw.2; omega) (by omega)
  have zb := rs_bd (wd := wd) (f := f) hw htl
  have NO := hide (cW_no (l := l) (wd := wd) (f := f) (t := t))
  have LA := hide (cW_last (l := l) (wd := wd) hft)
  have MI := hide (cW_mid (l := l) (wd := wd) hft)
  unfold rs at NO LA MI zb
  obtain ⟨z, hz⟩ : ∃ z, z = wd + 1 - (sm (sub l f t) (sub l f t).length : Int) - ((sub l f t).length : Int) := ⟨_, rfl⟩
  rw [← hz] at CS NO LA MI zb
  have HC := hide CS
  have hl := hw.2
  have g1 : f ≤ t := by omega
  have g2 : t ≤ c := by omega
  have g3 : ¬ c = f := by omega
  have CAST : ((t : Int) - (f : Int)) = ((t - f : Nat) : Int) := by omega
  clear CS hw ha hc0 hz
  rcases (by omega : z < 0 ∨ 0 ≤ z ∧ t = l.length ∨ 0 ≤ z ∧ t < l.length) with q | ⟨q, q1⟩ | ⟨q, q1⟩
  · have E := hide (NO.out q)
    clear NO LA MI
    rw [E.out]
    go_enter Try.func147, Try.ntmps147
    go_wp2_with fail
    go_quiet (first | (go_at_call 80; (with_reducible refine (HC.out _ _).mono ?_); exact fun _ _ h => ⟨h.1, _, h.2.symm⟩))
    go_wp2
    go_ret2
    exact ⟨rfl, bl_drewN (bl_refl _) _⟩
  · have E := hide (LA.out q q1)
    clear NO LA MI
    rw [E.out]
    have q2 : ((t : Int) == (l.length : Int)) = true := beq_iff_eq.2 (by omega)
    clear q1
    go_enter Try.func147, Try.ntmps147
    go_wp2_with fail
    go_quiet (first | (go_at_call 80; (with_reducible refine (HC.out _ _).mono ?_); exact fun _ _ h => ⟨h.1, _, h.2.symm⟩))
    go_wp2
    go_ret2
    exact ⟨rfl, bl_drewN (bl_refl _) _⟩
  · have E := hide (MI.out q q1)
    have sq := sq_bd q (by omega)
    clear NO LA MI
    rw [E.out]
    have q2 : ((t : Int) == (l.length : Int)) = false := beq_eq_false_iff_ne.2 (by omega)
    go_enter Try.func147, Try.ntmps147
    go_wp2_with fail
    go_quiet (first | (go_at_call 80; (with_reducible refine (HC.out _ _).mono ?_); exact fun _ _ h => ⟨h.1, _, h.2.symm⟩))
    go_wp2
    go_ret2
    exact ⟨rfl, bl_drewN (bl_refl _) _⟩
theorem costOfWrapped_i (w : World) (A : Option Addr) (n c : Nat) (wd : Int) :
    Calls Try.prog 86 #[.slice A n c, .int .i64 wd] w fun e w' => e = .returned (.func (.func 147) #[] #[.pointer (some ⟨w.heap.size, 0, none⟩), .pointer (some ⟨w.heap.size + 1, 0, none⟩)]) ∧ (w.alloc (.cells #[.slice A n c] 22)).alloc (.cells #[.int .i64 wd] 3) = w' := by
  go_enter Try.func86, Try.ntmps86
  go_wp2
  go_ret
  exact ⟨rfl, rfl⟩
/-- What WrapCost answers. -/
noncomputable def wcO (l : List ByteArray) (wd : Int) (E : List Int) : Int × Bool :=
  if wok l && inB wd 20 60 && ve E l.length then toO 0 E (fun _ f t => cW l wd f t) else (0, false)
theorem wcO_no {l : List ByteArray} {wd : Int} {E : List Int} (h : (wok l && inB wd 20 60 && ve E l.length) = false) : wcO l wd E = (0, false) := by unfold wcO; rw [h]; rfl
theorem wcO_yes {l : List ByteArray} {wd : Int} {E : List Int} (h : (wok l && inB wd 20 60 && ve E l.length) = true) : wcO l wd E = toO 0 E (fun _ f t => cW l wd f t) := by unfold wcO; rw [h]; rfl
theorem pv_frm (E : List Int) (j : Nat) : pv0 E j = frm 0 E j := by
  cases j with
  | zero => rfl
  | succ j => rfl
theorem ve_at {E : List Int} {n : Nat} (h : ve E n = true) {j : Nat} (hj : j < E.length) : ∃ f t : Nat, frm 0 E j = f ∧ ng E j = t ∧ f < t ∧ t ≤ n := by
  obtain ⟨a, b⟩ := ve_iff.1 h
  have h1 := a.pos j (by omega)
  have h2 := a j hj
  have h3 := a.le E.length (j + 1) (by omega) (by omega)
  have h4 : pv0 E (j + 1) = ng E j := rfl
  have h5 := pv_frm E j
  unfold lst at b
  exact ⟨(pv0 E j).toNat, (ng E j).toNat, by omega, by omega, by omega, by omega⟩
end Go.Proofs.Ytlfhfbeacleggaa
