/- The least costly division, in the program. -/
import Derived.Test.YtlfhfbeacleggaaLwI
import Derived.Laws.EntriesVeiled
namespace Go.Proofs.Ytlfhfbeacleggaa
open Go.ChangeShapes Go.WideShapes Go.ChangeAt Go.RowKit
set_option linter.unusedVariables false
set_option linter.unusedSimpArgs false
open Classical

/-- It returns a list of numbers of its own. -/
def RetI (w : World) (l : List Int) (e : Ending) (w' : World) : Prop := ∃ A c, e = .returned (.slice A l.length c) ∧ OL w' 3 w.heap.size A c l ∧ Below w.heap.size w w'
theorem JW.belowB {w0 W W' : World} {K n B : Nat} {T : Nat → Nat × Int} (h : JW w0 W K n T) (hb : Below B W W') (hK : K < B) (h0 : w0.heap.size ≤ B) : JW w0 W' K n T :=
  ⟨⟨hb.os.trans h.1.os, hb.tape.trans h.1.tape, hb.output.trans h.1.output, Nat.le_trans h.1.size hb.size, fun i hi hne => (hb.block i (by omega)).trans (h.1.block i hi hne)⟩, fun f hf => by
    obtain ⟨a, ha, c0, c1⟩ := h.2.1 f hf
    exact ⟨a, ha, (hb.cell (p := ⟨K, _, none⟩) hK).trans c0, (hb.cell (p := ⟨K, _, none⟩) hK).trans c1⟩, fun j => (hb.frozen (p := ⟨K, j, none⟩) hK).trans (h.2.2 j)⟩
theorem wr_info : (Try.prog.info? 175).map (fun i => (i.zero, i.size, i.bytes)) = some (some (.agg #[.int .i64 0, .int .i64 0]), 2, 16) := by kernel_rfl
theorem mc_get {z : Array Value} {N i : Nat} (h : i < N) : (madeCells z N)[i]? = some (z[i % z.size]!) := by simp [madeCells, h]
theorem made2 {N j : Nat} (h : j < N) : (madeCells (Value.agg #[.int .i64 0, .int .i64 0]).cells N)[j]? = some (.int .i64 0) := by
  have e : (Value.agg #[.int .i64 0, .int .i64 0]).cells = #[.int .i64 0, .int .i64 0] := rfl
  rw [e, mc_get h, show (#[Value.int .i64 0, .int .i64 0] : Array Value).size = 2 from rfl]
  rcases (by omega : j % 2 = 0 ∨ j % 2 = 1) with q | q <;> rw [q] <;> rfl
set_option maxRecDepth 8000 in
set_option maxHeartbeats 4000000 in
theorem leastWrap_i (w : World) (n : Nat) (C : Nat → Nat → Int × Bool) (T : Nat → Nat × Int) (g : Nat → Nat → Option Int) (q1 q2 : Value) (hn : n ≤ 40)
    (TS : ∀ f, f < n → T f = scan (g f) (f + 1) (n - f) (0, 0)) (TE : T n = (n, 0)) (GNO : ∀ f t, (C f t).2 = false → g f t = none) (GYES : ∀ f t, (C f t).2 = true → g f t = some ((C f t).1 + (T t).2))
    (TB : 1 ≤ n → ∀ f, f ≤ n → 1 ≤ (T f).1 ∧ (T f).1 ≤ n ∧ 0 ≤ (T f).2 ∧ (T f).2 ≤ 160000) (TP : ∀ f, f < n → f < (T f).1) (CB : ∀ f t, 0 ≤ (C f t).1 ∧ (C f t).1 ≤ 3721)
    (HC : ∀ v, Below w.heap.size w v → ∀ f t : Nat, f < t → t ≤ n → Calls Try.prog 147 #[.int .i64 0, .int .i64 f, .int .i64 t, q1, q2] v fun e v' => e = .returned (.tuple #[.int .i64 (C f t).1, .bool (C f t).2]) ∧ Below v.heap.size v v')
    (R : List Int) (hR : R = wE n T n 0) :
    Calls Try.prog 85 #[.int .i64 n, .func (.func 147) #[] #[q1, q2]] w (RetI w R) := by
  obtain ⟨i1, hi1, kz0, kz1, kz2⟩ := info_parts wr_info
  obtain ⟨M3, hM3⟩ : ∃ M, M = madeCells (Value.agg #[.int .i64 0, .int .i64 0]).cells ((((n : Nat) : Int) + 1).toNat * i1.size) := ⟨_, rfl⟩
  have hmk3 : ∀ W : World, (Instr.makeSlice 173 (.int .i64 ((n : Int) + 1)) (.int .i64 ((n : Int) + 1))).run Try.prog W = .ok (.slice (some ⟨W.heap.size, 0, none⟩) (n + 1) (n + 1)) (W.alloc (.cells M3 175)) := fun W => by
    have h := run_make (P := Try.prog) W 173 175 i1 _ Try.underlying173 hi1 kz0 .i64 .i64 ((n : Int) + 1) ((n : Int) + 1) (by omega) (by omega) (by rw [kz2]; omega) (by omega)
    rw [← hM3] at h
    simpa using h
  have wl : IntKind.i64.wrap ((n : Int) + 1) = (n : Int) + 1 := IntWalk.i64_in _ (by omega)
  have HM : Hid (∀ j, j < (n + 1) * 2 → M3[j]? = some (.int .i64 0)) := hide (fun j hj => by
    have e : (((n : Nat) : Int) + 1).toNat * i1.size = (n + 1) * 2 := by rw [kz1]; omega
    rw [hM3, e]
    exact made2 hj)
  have m0 := HM.out (n * 2) (by omega)
  have hsz : n * 2 < M3.size := by
    rcases Nat.lt_or_ge (n * 2) M3.size with h | h
    · exact h
    · rw [Array.getElem?_eq_none h] at m0; cases m0
  clear hM3 kz0 kz1 kz2 hi1
  rcases Nat.eq_zero_or_pos n with hn0 | hn0
  · have e0 : R = [] := by rw [hR, hn0]; rfl
    rw [e0]
    have hx : ¬ ((0 : Int) < (n : Int)) := by omega
    clear hR e0 HC TS TE GNO GYES TB TP CB HM hn0
    go_enter Try.func85, Try.ntmps85
    go_wp2
    go_loopw [7, 8] (fun v i u => v = .slice none 0 0 ∧ i = .int .i64 0 ∧ Below w.heap.size w u ∧ u.cell? ⟨w.heap.size, 0, none⟩ = some (.int .i64 n)) (fun _ _ _ => 0)
    case atStart => exact ⟨rfl, rfl, by repeat' (first | with_reducible exact bl_refl _ | with_reducible assumption | with_reducible refine bl_alloc ?_ _ | with_reducible refine bl_set ?_ ?_ _ | with_reducible refine bl_drewN ?_ _ | with_reducible refine bl_drew ?_ | with_reducible refine bl_call (by assumption) ?_), by simp [go_sem]⟩
    case round =>
      obtain ⟨rfl, rfl, hb, hc⟩ := hrel
      go_wp2
      go_ret
      exact ⟨none, 0, rfl, OL.nil _ _ _, hb⟩
  have tb := hide (TB hn0)
  have HTP := hide TP
  obtain ⟨W0, hW0⟩ : ∃ W0, W0 = (((((w.alloc (.cells #[.int .i64 n] 3)).alloc (.cells #[.func (.func 147) #[] #[q1, q2]] 101)).alloc (.cells (M3.setIfInBounds (n * 2) (.int .i64 n)) 175)).alloc (.cells #[.slice (some ⟨w.heap.size + 1 + 1, 0, none⟩) (n + 1) (n + 1)] 173)).alloc (.cells #[.func (.func 146) #[] #[.pointer (some ⟨w.heap.size + 1 + 1 + 1, 0, none⟩), .pointer (some ⟨w.heap.size, 0, none⟩), .pointer (some ⟨w.heap.size + 1, 0, none⟩), .pointer (some ⟨w.heap.size + 1 + 1 + 1 + 1, 0, none⟩)]] 176)) := ⟨_, rfl⟩
  have c1 : W0.cell? ⟨w.heap.size + 1 + 1 + 1, 0, none⟩ = some (.slice (some ⟨w.heap.size + 1 + 1, 0, none⟩) (n + 1) (n + 1)) := by rw [hW0]; simp [go_sem]
  have c2 : W0.cell? ⟨w.heap.size, 0, none⟩ = some (.int .i64 n) := by rw [hW0]; simp [go_sem]
  have c3 : W0.cell? ⟨w.heap.size + 1, 0, none⟩ = some (.func (.func 147) #[] #[q1, q2]) := by rw [hW0]; simp [go_sem]
  have c4 : W0.cell? ⟨w.heap.size + 1 + 1 + 1 + 1, 0, none⟩ = some (.func (.func 146) #[] #[.pointer (some ⟨w.heap.size + 1 + 1 + 1, 0, none⟩), .pointer (some ⟨w.heap.size, 0, none⟩), .pointer (some ⟨w.heap.size + 1, 0, none⟩), .pointer (some ⟨w.heap.size + 1 + 1 + 1 + 1, 0, none⟩)]) := by rw [hW0]; simp [go_sem]
  have hz0 : W0.heap.size = w.heap.size + 5 := by rw [hW0]; simp
  have hb0 : Below w.heap.size w W0 := by rw [hW0]; repeat' (first | with_reducible exact bl_refl _ | with_reducible assumption | with_reducible refine bl_alloc ?_ _ | with_reducible refine bl_set ?_ ?_ _ | with_reducible refine bl_drewN ?_ _ | with_reducible refine bl_drew ?_ | with_reducible refine bl_call (by assumption) ?_)
  have hJ0 : JW W0 W0 (w.heap.size + 1 + 1) n T := by
    refine ⟨World.grownBy.refl _ _, fun f hf => ?_, fun j => by rw [hW0]; simp [go_sem]⟩
    have x0 := HM.out (f * 2) (by omega)
    have x1 := HM.out (f * 2 + 1) (by omega)
    rcases (by omega : f = n ∨ f < n) with e | e
    · subst e
      refine ⟨T f, .inl rfl, ?_, ?_⟩
      · rw [hW0, TE]; simp [go_sem, hsz]
      · rw [hW0, TE]; simp [go_sem, x1]
    · have y0 : ¬ n * 2 = f * 2 := by omega
      have y1 : ¬ n * 2 = f * 2 + 1 := by omega
      refine ⟨(0, 0), .inr ⟨rfl, e⟩, ?_, ?_⟩
      · rw [hW0]; simp [go_sem, x0, y0]
      · rw [hW0]; simp [go_sem, x1, y1]
  have MEM := hide (fun (u : World) (hJ : JW W0 u (w.heap.size + 1 + 1) n T) (f : Nat) (hf : f ≤ n) => memo_i W0 (w.heap.size + 1 + 1) (w.heap.size + 1 + 1 + 1) w.heap.size (w.heap.size + 1) (w.heap.size + 1 + 1 + 1 + 1) n C T g q1 q2 hn TS TE GNO GYES (TB hn0) CB (by omega) (by omega) (by omega) (by omega) c1 c2 c3 c4
    (fun v hv => HC v (hb0.grown hv hb0.size (fun k hk => by injection hk with hk; omega))) (n - f) f rfl hf u hJ)
  have HJ0 := hide hJ0
  have HB0 := hide hb0
  have HR := hide hR
  have C1 := hide c1
  have C2 := hide c2
  have C4 := hide c4
  clear HC TS TE GNO GYES TB TP CB HM m0 hJ0 hb0 hR
  go_enter Try.func85, Try.ntmps85
  go_wp2
  rw [← hW0]
  clear hW0 hmk3 hsz wl c3 c1 c4
  go_loopw [7, 8] (fun v i u => ∃ (f k : Nat) (A : Option Addr) (c q : Nat) (L : List Int), f ≤ n ∧ n - f ≤ k ∧ L.length = q ∧ q ≤ f ∧ i = .int .i64 f ∧ v = .slice A q c ∧ R = L ++ wE n T k f ∧ OL u 3 (w.heap.size + 5) A c L ∧ JW W0 u (w.heap.size + 1 + 1) n T) (fun _ i _ => n - (intOf i).toNat)
  case atStart => exact ⟨0, n, none, 0, 0, [], by omega, by omega, rfl, by omega, rfl, rfl, HR.out, OL.nil _ _ _, HJ0.out⟩
  case round =>
    obtain ⟨f, k, A, c, q, L, hf, hk, hq, hqf, rfl, rfl, hRR, hol, hJ⟩ := hrel
    have c2 := hJ.1.cell c2 (fun e => by injection e with e; dsimp only at e; omega)
    have c4 := hJ.1.cell C4.out (fun e => by injection e with e; dsimp only at e; omega)
    have HRR := hide hRR
    have HOL := hide hol
    have HJ := hide hJ
    have HQ := hide hq
    have hzr := hJ.1.size
    clear hRR hol hJ hq
    by_cases hlt : f < n
    · have hM := MEM.out wr HJ.out f hf
      have tbf := tb.out f hf
      have htp := HTP.out f hlt
      have NX := hide (show R = (L ++ [((T f).1 : Int)]) ++ wE n T (k - 1) (T f).1 by
        rw [HRR.out]
        obtain ⟨k', rfl⟩ : ∃ k', k = k' + 1 := ⟨k - 1, by omega⟩
        rw [wE_step hlt]
        simp)
      obtain ⟨Y, hY⟩ : ∃ Y, Y = T f := ⟨_, rfl⟩
      rw [← hY] at hM tbf htp NX
      clear hY
      obtain ⟨y, z⟩ := Y
      dsimp only [W2] at hM tbf htp NX
      have hfd : ∀ W : World, (Instr.field 175 (.agg #[.int .i64 y, .int .i64 z]) 0).run Try.prog W = .ok (.int .i64 y) W := fun W => by rfl
      have HM := hide hM
      clear hM HRR
      go_wp2_with fail
      (with_reducible refine HM.out.mono ?_)
      rintro e u ⟨rfl, hJu, hgu⟩
      have hol := HOL.out.kept hgu (fun k' h1 h2 => by
        have := (HOL.out.own_lt k' h1).1
        injection h2 with h2
        omega)
      have HJu := hide hJu
      have hzu := hgu.size
      clear hJu hgu
      obtain ⟨i0, hi0, jz0, jz1, jz2⟩ := info_parts int_info
      go_wp2_with (at_builtin; refine wpList_append_int rfl (.tmp 25) (.tmp 27) _ rfl 3 i0 Try.underlying32 hi0 jz0 jz1 jz2 (w.heap.size + 5) A c q L rfl (HQ.out.symm) (hol.alloc _) u.heap.size y rfl (by simp) (by omega) (by simp; omega) ?_; intro A' c' w' hol' hb' hg')
      go_roundw
      case rel => exact ⟨y, k - 1, A', c', q + 1, L ++ [(y : Int)], by omega, by omega, by simp [HQ.out], by omega, rfl, rfl, NX.out, hol', HJu.out.belowB (((Below.refl (w.heap.size + 5) u).alloc (by omega) _).trans hb') (by omega) (by omega)⟩
      case measure => simp [intOf]; omega
    · have e : L = R := by rw [HRR.out, wE_end hlt, List.append_nil]
      have HE := hide (show q = R.length by rw [← e, HQ.out])
      have hbl := HB0.out.grown HJ.out.1 HB0.out.size (fun k hk => by injection hk with hk; omega)
      have HBL := hide hbl
      have HO := hide (HOL.out.more (show w.heap.size ≤ w.heap.size + 5 by omega))
      rw [e] at HO
      clear hbl e HRR
      go_wp2
      go_ret
      exact ⟨A, c, by rw [← HE.out]; rfl, HO.out, HBL.out⟩
end Go.Proofs.Ytlfhfbeacleggaa
