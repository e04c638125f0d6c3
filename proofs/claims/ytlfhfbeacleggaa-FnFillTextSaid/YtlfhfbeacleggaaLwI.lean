/- The least costly division, in the program: a table that a recursion fills. -/
import Derived.Test.YtlfhfbeacleggaaLw
import Derived.Lib.BufferOwn
import Derived.Deep.AppendLies
import Derived.LoopN
namespace Go.Proofs.Ytlfhfbeacleggaa
open Go.ChangeShapes Go.WideShapes Go.ChangeAt Go.RowKit
set_option linter.unusedVariables false
set_option linter.unusedSimpArgs false
open Classical

abbrev W2 (a : Nat × Int) : Value := .agg #[.int .i64 a.1, .int .i64 a.2]
/-- The known ways: the least one, or none yet. -/
def JW (w0 W : World) (K n : Nat) (T : Nat → Nat × Int) : Prop :=
  w0.grownBy W (some K) ∧ (∀ f, f ≤ n → ∃ a : Nat × Int, (a = T f ∨ a = (0, 0) ∧ f < n) ∧ W.cell? ⟨K, f * 2, none⟩ = some (.int .i64 a.1) ∧ W.cell? ⟨K, f * 2 + 1, none⟩ = some (.int .i64 a.2)) ∧ ∀ j, W.frozen? ⟨K, j, none⟩ = false
section
variable {w0 W W' : World} {K n : Nat} {T : Nat → Nat × Int}
theorem JW.lt (h : JW w0 W K n T) : K < W.heap.size := by
  obtain ⟨a, _, hc, _⟩ := h.2.1 0 (by omega)
  exact World.block_lt_of_cell? W _ hc
theorem JW.below (h : JW w0 W K n T) (hb : Below W.heap.size W W') : JW w0 W' K n T :=
  ⟨Lib.grownBy_below h.1 hb, fun f hf => by
    obtain ⟨a, ha, c0, c1⟩ := h.2.1 f hf
    exact ⟨a, ha, keep_cell hb c0, keep_cell hb c1⟩, fun j => (hb.frozen (p := ⟨K, j, none⟩) h.lt).trans (h.2.2 j)⟩
theorem gb_own {a w : World} {row : Option Nat} (h : a.grownBy w row) {p : Addr} (hp : a.heap.size ≤ p.block) (v : Value) : a.grownBy (w.setCell p v) row :=
  have hb := (Below.refl a.heap.size w).setCell (p := p) hp v
  ⟨hb.os.trans h.os, hb.tape.trans h.tape, hb.output.trans h.output, Nat.le_trans h.size hb.size, fun i hi hne => (hb.block i hi).trans (h.block i hi hne)⟩
theorem JW.own (h : JW w0 W K n T) {p : Addr} (hp : w0.heap.size ≤ p.block) (hk : ¬ K = p.block) (v : Value) : JW w0 (W.setCell p v) K n T :=
  ⟨gb_own h.1 hp v, fun f hf => by
    obtain ⟨a, ha, c0, c1⟩ := h.2.1 f hf
    refine ⟨a, ha, ?_, ?_⟩
    · rw [← c0]; exact World.cell?_setCell_far _ _ _ _ (fun e => hk e.symm)
    · rw [← c1]; exact World.cell?_setCell_far _ _ _ _ (fun e => hk e.symm),
    fun j => by rw [← h.2.2 j]; simp [go_sem]⟩
theorem JW.set (h : JW w0 W K n T) {f : Nat} (hf : f ≤ n) : JW w0 ((W.setCell ⟨K, f * 2, none⟩ (.int .i64 (T f).1)).setCell ⟨K, f * 2 + 1, none⟩ (.int .i64 (T f).2)) K n T :=
  ⟨Lib.grownBy_setB (Lib.grownBy_setB h.1 _ _) _ _, fun j hj => by
    obtain ⟨a, ha, c0, c1⟩ := h.2.1 j hj
    by_cases e : j = f
    · subst e
      exact ⟨T j, .inl rfl, by simp [go_sem, c0, c1], by simp [go_sem, c0, c1]⟩
    · have e1 : ¬ f = j := fun x => e x.symm
      have e2 : ¬ f * 2 = j * 2 := by omega
      have e3 : ¬ f * 2 + 1 = j * 2 := by omega
      have e4 : ¬ f * 2 = j * 2 + 1 := by omega
      exact ⟨a, ha, by simp [go_sem, c0, c1, e1, e2, e3, e4], by simp [go_sem, c0, c1, e1, e2, e3, e4]⟩,
    fun j => by simp only [World.frozen?_setCell]; exact h.2.2 j⟩
end
set_option maxRecDepth 8000 in
set_option maxHeartbeats 4000000 in
theorem memo_i (w0 : World) (K P1 P2 P3 P4 n : Nat) (C : Nat → Nat → Int × Bool) (T : Nat → Nat × Int) (g : Nat → Nat → Option Int) (q1 q2 : Value) (hn : n ≤ 40)
    (TS : ∀ f, f < n → T f = scan (g f) (f + 1) (n - f) (0, 0)) (TE : T n = (n, 0)) (GNO : ∀ f t, (C f t).2 = false → g f t = none) (GYES : ∀ f t, (C f t).2 = true → g f t = some ((C f t).1 + (T t).2))
    (TB : ∀ f, f ≤ n → 1 ≤ (T f).1 ∧ (T f).1 ≤ n ∧ 0 ≤ (T f).2 ∧ (T f).2 ≤ 160000) (CB : ∀ f t, 0 ≤ (C f t).1 ∧ (C f t).1 ≤ 3721)
    (k1 : K ≠ P1) (k2 : K ≠ P2) (k3 : K ≠ P3) (k4 : K ≠ P4) (b1 : w0.cell? ⟨P1, 0, none⟩ = some (.slice (some ⟨K, 0, none⟩) (n + 1) (n + 1))) (b2 : w0.cell? ⟨P2, 0, none⟩ = some (.int .i64 n))
    (b3 : w0.cell? ⟨P3, 0, none⟩ = some (.func (.func 147) #[] #[q1, q2])) (b4 : w0.cell? ⟨P4, 0, none⟩ = some (.func (.func 146) #[] #[.pointer (some ⟨P1, 0, none⟩), .pointer (some ⟨P2, 0, none⟩), .pointer (some ⟨P3, 0, none⟩), .pointer (some ⟨P4, 0, none⟩)]))
    (HC : ∀ v, w0.grownBy v (some K) → ∀ f t : Nat, f < t → t ≤ n → Calls Try.prog 147 #[.int .i64 0, .int .i64 f, .int .i64 t, q1, q2] v fun e v' => e = .returned (.tuple #[.int .i64 (C f t).1, .bool (C f t).2]) ∧ Below v.heap.size v v') :
    ∀ d f : Nat, n - f = d → f ≤ n → ∀ W, JW w0 W K n T → Calls Try.prog 146 #[.int .i64 f, .pointer (some ⟨P1, 0, none⟩), .pointer (some ⟨P2, 0, none⟩), .pointer (some ⟨P3, 0, none⟩), .pointer (some ⟨P4, 0, none⟩)] W fun e W' => e = .returned (W2 (T f)) ∧ JW w0 W' K n T ∧ W.grownBy W' (some K) := by
  intro d
  induction d using Nat.strongRecOn with
  | ind d ih =>
    intro f hd hf W hJ
    have IH := hide (fun (t : Nat) (h1 : f < t) (h2 : t ≤ n) => ih (n - t) (by omega) t rfl h2)
    clear ih
    have HCC := hide HC
    have HJ := hide hJ
    have HTB := hide TB
    have c1 := hJ.1.cell b1 (fun e => k1 (by injection e with e; exact e.symm))
    have c2 := hJ.1.cell b2 (fun e => k2 (by injection e with e; exact e.symm))
    have c3 := hJ.1.cell b3 (fun e => k3 (by injection e with e; exact e.symm))
    have c4 := hJ.1.cell b4 (fun e => k4 (by injection e with e; exact e.symm))
    obtain ⟨a, ha, d0, d1⟩ := hJ.2.1 f hf
    have hKl := hJ.lt
    have hz0 := hJ.1.size
    have l1 := World.block_lt_of_cell? W _ c1
    have l2 := World.block_lt_of_cell? W _ c2
    have l3 := World.block_lt_of_cell? W _ c3
    have l4 := World.block_lt_of_cell? W _ c4
    dsimp only at l1 l2 l3 l4
    have e1 : ((f : Int)) < (n : Int) + 1 := by omega
    have e2 : f < n + 1 := by omega
    clear HC TB hJ
    rcases ha with rfl | ⟨rfl, hfn⟩
    · have tb := HTB.out f hf
      have HW := hide (show JW w0 (W.alloc (.cells #[.int .i64 (T f).1, .int .i64 (T f).2] 175)) K n T from HJ.out.below (bl_alloc (bl_refl _) _))
      obtain ⟨A, hA⟩ : ∃ A, A = T f := ⟨_, rfl⟩
      rw [← hA] at d0 d1 tb HW ⊢
      clear hA
      have t0 : (0 : Int) < (A.1 : Int) := by omega
      go_enter Try.func146, Try.ntmps146
      go_wp2
      refine bodyPost_ret (v := W2 A) (by simp [results, Try.results146, go_sem]) rfl ⟨rfl, HW.out, World.grownBy_alloc _ _ _⟩
    have TS := hide (TS f hfn)
    have GN := hide (fun t => GNO f t)
    have GY := hide (fun t => GYES f t)
    have CC := hide (fun t => CB f t)
    clear GNO GYES CB TE
    go_enter Try.func146, Try.ntmps146
    go_wp2
    clear d0 d1 c1 c2 c3 c4
    go_loopw [8] (fun i wr => ∃ (t : Nat) (a : Nat × Int), f < t ∧ t ≤ n + 1 ∧ i = .int .i64 t ∧ T f = scan (g f) t (n + 1 - t) a ∧ a.1 ≤ n ∧ 0 ≤ a.2 ∧ a.2 ≤ 170000 ∧ JW w0 wr K n T ∧ W.grownBy wr (some K) ∧ (wr.cell? ⟨W.heap.size, 0, none⟩ = some (.int .i64 0) ∧ wr.cell? ⟨W.heap.size, 1, none⟩ = some (.int .i64 0) ∧ wr.cell? ⟨W.heap.size + 1, 0, none⟩ = some (.int .i64 a.1) ∧ wr.cell? ⟨W.heap.size + 1, 1, none⟩ = some (.int .i64 a.2)) ∧ (∀ j, wr.frozen? ⟨W.heap.size, j, none⟩ = false ∧ wr.frozen? ⟨W.heap.size + 1, j, none⟩ = false)) (fun i _ => n + 1 - (intOf i).toNat)
    case atStart =>
      refine ⟨f + 1, (0, 0), by omega, by omega, by go_num, by rw [TS.out, show n + 1 - (f + 1) = n - f by omega], by dsimp only; omega, by simp, by simp, HJ.out.below (bl_alloc (bl_alloc (bl_refl _) _) _), Lib.grownBy_allocR (World.grownBy_alloc _ _ _) _, ⟨by simp [go_sem], by simp [go_sem], by simp [go_sem], by simp [go_sem]⟩, fun j => ⟨by simp [go_sem], by simp [go_sem]⟩⟩
    case round =>
      obtain ⟨t, a, hft, htn, rfl, hT, ha1, ha2, ha3, hJr, hgr, ⟨r0, r1, s0, s1⟩, hfr⟩ := hrel
      have c1 := hJr.1.cell b1 (fun e => k1 (by injection e with e; exact e.symm))
      have c2 := hJr.1.cell b2 (fun e => k2 (by injection e with e; exact e.symm))
      have c3 := hJr.1.cell b3 (fun e => k3 (by injection e with e; exact e.symm))
      have c4 := hJr.1.cell b4 (fun e => k4 (by injection e with e; exact e.symm))
      have lt := World.block_lt_of_cell? wr _ s0
      dsimp only at lt
      have lr : W.heap.size < wr.heap.size := by omega
      have hk5 : ¬ K = W.heap.size := by omega
      have hk6 : ¬ K = W.heap.size + 1 := by omega
      have hk7 : ¬ W.heap.size = K := by omega
      have hk8 : ¬ W.heap.size + 1 = K := by omega
      have fr := (hfr 0).1
      have fr1 := (hfr 1).1
      have fs := (hfr 0).2
      have fs1 := (hfr 1).2
      have HFR := hide hfr
      have HGR := hide hgr
      have HJR := hide hJr
      have HT := hide hT
      clear hfr hgr hJr hT
      rcases (by omega : t ≤ n ∨ t = n + 1) with htl | rfl
      · have CL := hide (HCC.out wr HJR.out.1 f t hft htl)
        have IHt := hide (IH.out t hft htl)
        have GNt := hide (GN.out t)
        have GYt := hide (GY.out t)
        have cc := CC.out t
        have tb := HTB.out t htl
        obtain ⟨v, hv⟩ : ∃ v, v = (C f t).1 := ⟨_, rfl⟩
        obtain ⟨ok, hok⟩ : ∃ ok, ok = (C f t).2 := ⟨_, rfl⟩
        rw [← hv, ← hok] at CL GYt
        rw [← hok] at GNt
        rw [← hv] at cc
        clear hv hok IH GN GY CC
        cases ok
        · have E := hide (show T f = a by rw [HT.out, scan_no (GNt.out rfl)])
          clear GYt GNt HT IHt
          go_wp2_with fail
          (with_reducible refine CL.out.mono ?_)
          rintro e u ⟨rfl, hb⟩
          have c1 := keep_cell hb c1; have c2 := keep_cell hb c2; have c3 := keep_cell hb c3; have c4 := keep_cell hb c4; have r0 := keep_cell hb r0; have r1 := keep_cell hb r1; have s0 := keep_cell hb s0; have s1 := keep_cell hb s1; have fr := (hb.frozen (p := ⟨W.heap.size, 0, none⟩) lr).trans fr; have fr1 := (hb.frozen (p := ⟨W.heap.size, 1, none⟩) lr).trans fr1; have fs := (hb.frozen (p := ⟨W.heap.size + 1, 0, none⟩) lt).trans fs; have fs1 := (hb.frozen (p := ⟨W.heap.size + 1, 1, none⟩) lt).trans fs1
          have hJu := HJR.out.below hb
          have hgu := Lib.grownBy_below HGR.out hb
          obtain ⟨a', _, d0, d1⟩ := hJu.2.1 f hf; have z0 := hJu.2.2 (f * 2); have z1 := hJu.2.2 (f * 2 + 1); have HSET := hide (JW.own (JW.own (hJu.set hf) (p := ⟨W.heap.size, 0, none⟩) (by dsimp only; omega) hk5 (.int .i64 a.1)) (p := ⟨W.heap.size, 1, none⟩) (by dsimp only; omega) hk5 (.int .i64 a.2)); rw [E.out] at HSET; have HGS := hide (gb_own (gb_own (Lib.grownBy_setB (Lib.grownBy_setB hgu (f * 2) (.int .i64 a.1)) (f * 2 + 1) (.int .i64 a.2)) (p := ⟨W.heap.size, 0, none⟩) (by dsimp only; omega) (.int .i64 a.1)) (p := ⟨W.heap.size, 1, none⟩) (by dsimp only; omega) (.int .i64 a.2)); clear hJu hgu; go_wp2; refine bodyPost_ret (v := W2 a) (by simp [results, Try.results146, go_sem, *]) rfl ⟨by rw [E.out], HSET.out, HGS.out⟩
        · have hsc := GYt.out rfl
          have SC := hide (show T f = scan (g f) (t + 1) (n + 1 - (t + 1)) (if a.1 = 0 ∨ v + (T t).2 < a.2 then (t, v + (T t).2) else a) by
            rw [HT.out, show n + 1 - t = n + 1 - (t + 1) + 1 by omega, scan_yes hsc])
          obtain ⟨Y, hY⟩ : ∃ Y, Y = T t := ⟨_, rfl⟩
          rw [← hY] at SC tb IHt
          clear GYt GNt HT hsc hY
          obtain ⟨y, z⟩ := Y
          dsimp only [W2] at SC tb IHt
          have sel : (a.1 = 0 ∨ v + z < a.2) ∨ (¬ a.1 = 0 ∧ a.2 ≤ v + z) := by omega
          have SEL := hide sel
          clear sel
          obtain ⟨a1, a2⟩ := a
          dsimp only at s0 s1 SEL SC ha1 ha2 ha3
          go_wp2_with fail
          (with_reducible refine CL.out.mono ?_)
          rintro e u ⟨rfl, hb⟩
          have c1 := keep_cell hb c1; have c2 := keep_cell hb c2; have c3 := keep_cell hb c3; have c4 := keep_cell hb c4; have r0 := keep_cell hb r0; have r1 := keep_cell hb r1; have s0 := keep_cell hb s0; have s1 := keep_cell hb s1; have fr := (hb.frozen (p := ⟨W.heap.size, 0, none⟩) lr).trans fr; have fr1 := (hb.frozen (p := ⟨W.heap.size, 1, none⟩) lr).trans fr1; have fs := (hb.frozen (p := ⟨W.heap.size + 1, 0, none⟩) lt).trans fs; have fs1 := (hb.frozen (p := ⟨W.heap.size + 1, 1, none⟩) lt).trans fs1
          have HJU := hide (HJR.out.below hb)
          have HGU := hide (Lib.grownBy_below HGR.out hb)
          have HFU := hide (fun j => (⟨(hb.frozen (p := ⟨W.heap.size, j, none⟩) lr).trans (HFR.out j).1, (hb.frozen (p := ⟨W.heap.size + 1, j, none⟩) lt).trans (HFR.out j).2⟩ : u.frozen? ⟨W.heap.size, j, none⟩ = false ∧ u.frozen? ⟨W.heap.size + 1, j, none⟩ = false))
          have hbz := hb.size
          have lru : W.heap.size < u.heap.size := by omega
          have ltu : W.heap.size + 1 < u.heap.size := by omega
          clear hb HFR HGR HJR CL
          go_wp2_with fail
          (with_reducible refine (IHt.out u HJU.out).mono ?_)
          rintro e u2 ⟨rfl, hJ2, hg2⟩
          have c1 := hJ2.1.cell b1 (fun e => k1 (by injection e with e; exact e.symm))
          have c2 := hJ2.1.cell b2 (fun e => k2 (by injection e with e; exact e.symm))
          have c3 := hJ2.1.cell b3 (fun e => k3 (by injection e with e; exact e.symm))
          have c4 := hJ2.1.cell b4 (fun e => k4 (by injection e with e; exact e.symm))
          have r0 := hg2.cell r0 (fun e => hk7 (by injection e))
          have r1 := hg2.cell r1 (fun e => hk7 (by injection e))
          have s0 := hg2.cell s0 (fun e => hk8 (by injection e))
          have s1 := hg2.cell s1 (fun e => hk8 (by injection e))
          have HF2 := hide (fun j => (⟨(hg2.frozen_far ⟨W.heap.size, j, none⟩ lru (fun e => hk7 (by injection e))).trans (HFU.out j).1, (hg2.frozen_far ⟨W.heap.size + 1, j, none⟩ ltu (fun e => hk8 (by injection e))).trans (HFU.out j).2⟩ : u2.frozen? ⟨W.heap.size, j, none⟩ = false ∧ u2.frozen? ⟨W.heap.size + 1, j, none⟩ = false))
          have fs := (HF2.out 0).2
          have fs1 := (HF2.out 1).2
          have HJ2 := hide hJ2
          have hfd : ∀ W : World, (Instr.field 175 (.agg #[.int .i64 y, .int .i64 z]) 1).run Try.prog W = .ok (.int .i64 z) W := fun W => by rfl
          have HG2 := hide (Lib.grownBy_trans HGU.out hg2)
          have hz2 := hg2.size
          have wvz : IntKind.i64.wrap (v + z) = v + z := IntWalk.i64_in _ (by omega)
          clear hJ2 hg2 HFU HGU HJU fr fr1
          rcases (by have := SEL.out; omega : a1 = 0 ∨ (¬ a1 = 0 ∧ v + z < a2) ∨ (¬ a1 = 0 ∧ ¬ v + z < a2)) with rfl | ⟨q, q1⟩ | ⟨q, q1⟩
          · have SC1 := hide (show T f = scan (g f) (t + 1) (n + 1 - (t + 1)) (t, v + z) by rw [SC.out, if_pos (.inl rfl)])
            have HJ3 := hide (JW.own (JW.own HJ2.out (p := ⟨W.heap.size + 1, 0, none⟩) (by dsimp only; omega) hk6 (.int .i64 t)) (p := ⟨W.heap.size + 1, 1, none⟩) (by dsimp only; omega) hk6 (.int .i64 (v + z)))
            have HG3 := hide (gb_own (gb_own HG2.out (p := ⟨W.heap.size + 1, 0, none⟩) (by dsimp only; omega) (.int .i64 t)) (p := ⟨W.heap.size + 1, 1, none⟩) (by dsimp only; omega) (.int .i64 (v + z)))
            clear SC SEL HJ2 HG2
            go_wp2
            go_roundw
            case rel => exact ⟨t + 1, (t, v + z), by omega, by omega, by go_num, SC1.out, htl, by dsimp only; omega, by dsimp only; omega, HJ3.out, HG3.out, ⟨by simp [go_sem, r0], by simp [go_sem, r1], by simp [go_sem, s0, s1], by simp [go_sem, s0, s1]⟩, fun j => by simp only [World.frozen?_setCell]; exact HF2.out j⟩
            case measure => simp [intOf]; omega
          · have q0 : (((a1 : Nat) : Int) == 0) = false := beq_eq_false_iff_ne.2 (by omega)
            have SC1 := hide (show T f = scan (g f) (t + 1) (n + 1 - (t + 1)) (t, v + z) by rw [SC.out, if_pos (.inr q1)])
            have HJ3 := hide (JW.own (JW.own HJ2.out (p := ⟨W.heap.size + 1, 0, none⟩) (by dsimp only; omega) hk6 (.int .i64 t)) (p := ⟨W.heap.size + 1, 1, none⟩) (by dsimp only; omega) hk6 (.int .i64 (v + z)))
            have HG3 := hide (gb_own (gb_own HG2.out (p := ⟨W.heap.size + 1, 0, none⟩) (by dsimp only; omega) (.int .i64 t)) (p := ⟨W.heap.size + 1, 1, none⟩) (by dsimp only; omega) (.int .i64 (v + z)))
            clear SC SEL HJ2 HG2
            go_wp2
            go_roundw
            case rel => exact ⟨t + 1, (t, v + z), by omega, by omega, by go_num, SC1.out, htl, by dsimp only; omega, by dsimp only; omega, HJ3.out, HG3.out, ⟨by simp [go_sem, r0], by simp [go_sem, r1], by simp [go_sem, s0, s1], by simp [go_sem, s0, s1]⟩, fun j => by simp only [World.frozen?_setCell]; exact HF2.out j⟩
            case measure => simp [intOf]; omega
          · have q0 : (((a1 : Nat) : Int) == 0) = false := beq_eq_false_iff_ne.2 (by omega)
            have SC1 := hide (show T f = scan (g f) (t + 1) (n + 1 - (t + 1)) (a1, a2) by rw [SC.out, if_neg (by omega)])
            clear SC SEL
            go_wp2
            go_roundw
            case rel => exact ⟨t + 1, (a1, a2), by omega, by omega, by go_num, SC1.out, ha1, by dsimp only; omega, by dsimp only; omega, HJ2.out, HG2.out, ⟨r0, r1, s0, s1⟩, HF2.out⟩
            case measure => simp [intOf]; omega
      · have E := hide (show T f = a by rw [HT.out, Nat.sub_self]; rfl)
        clear HT
        have hJu := HJR.out
        have hgu := HGR.out
        obtain ⟨a', _, d0, d1⟩ := hJu.2.1 f hf; have z0 := hJu.2.2 (f * 2); have z1 := hJu.2.2 (f * 2 + 1); have HSET := hide (JW.own (JW.own (hJu.set hf) (p := ⟨W.heap.size, 0, none⟩) (by dsimp only; omega) hk5 (.int .i64 a.1)) (p := ⟨W.heap.size, 1, none⟩) (by dsimp only; omega) hk5 (.int .i64 a.2)); rw [E.out] at HSET; have HGS := hide (gb_own (gb_own (Lib.grownBy_setB (Lib.grownBy_setB hgu (f * 2) (.int .i64 a.1)) (f * 2 + 1) (.int .i64 a.2)) (p := ⟨W.heap.size, 0, none⟩) (by dsimp only; omega) (.int .i64 a.1)) (p := ⟨W.heap.size, 1, none⟩) (by dsimp only; omega) (.int .i64 a.2)); clear hJu hgu; go_wp2; refine bodyPost_ret (v := W2 a) (by simp [results, Try.results146, go_sem, *]) rfl ⟨by rw [E.out], HSET.out, HGS.out⟩
end Go.Proofs.Ytlfhfbeacleggaa
