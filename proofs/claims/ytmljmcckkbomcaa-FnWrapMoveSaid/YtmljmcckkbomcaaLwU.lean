/- The law FnWrapMove holds at every input: lines behind a line are wrapped alike. No condition. -/
import Derived.Test.YtmljmcckkbomcaaLwP
namespace Go.Proofs.Ytmljmcckkbomcaa
open Go.ChangeShapes Go.WideShapes Go.ChangeAt Go.RowKit
set_option linter.unusedVariables false
set_option linter.unusedSimpArgs false
open Classical

/-- The same way, e further on. -/
def ShR (e : Nat) (a b : Nat × Int) : Prop := a.2 = b.2 ∧ (a.1 = 0 ↔ b.1 = 0) ∧ (b.1 ≠ 0 → b.1 = a.1 + e)
theorem scan_sh {g g' : Nat → Option Int} {e : Nat} : ∀ {k t : Nat} {a b : Nat × Int}, 0 < t → ShR e a b → (∀ s, t ≤ s → s < t + k → g s = g' (s + e)) → ShR e (scan g t k a) (scan g' (t + e) k b)
  | 0, _, _, _, _, h, _ => h
  | k + 1, t, a, b, ht, h, hg => by
    have h0 := hg t (by omega) (by omega)
    cases q : g t with
    | none =>
      rw [scan_no q, scan_no (by rw [← h0, q])]
      exact h
    | some v =>
      rw [scan_yes q, scan_yes (by rw [← h0, q] : g' (t + e) = some v), show t + e + 1 = t + 1 + e by omega]
      refine scan_sh (by omega) ?_ fun s h1 h2 => hg s (by omega) (by omega)
      have c : (a.1 = 0 ∨ v < a.2) ↔ (b.1 = 0 ∨ v < b.2) := by rw [h.2.1, h.1]
      by_cases p : a.1 = 0 ∨ v < a.2
      · rw [if_pos p, if_pos (c.1 p)]
        exact ⟨rfl, by dsimp only; omega, fun _ => rfl⟩
      · rw [if_neg p, if_neg (fun x => p (c.2 x))]
        exact h
theorem bt_sh {n m e : Nat} {c c' : Nat → Nat → Option Int} (hm : n = m + e) (hc : ∀ f t, c' f t = c (f + e) (t + e)) : ∀ {d f : Nat}, m - f = d → f ≤ m → (bt m c' f).2 = (bt n c (f + e)).2 ∧ (f < m → ShR e (bt m c' f) (bt n c (f + e))) := by
  intro d
  induction d using Nat.strongRecOn with
  | ind d ih =>
    intro f hd hf
    rcases (by omega : f = m ∨ f < m) with q | q
    · subst q
      rw [bt_end, ← hm, bt_end]
      exact ⟨rfl, fun h => by omega⟩
    · have R : ShR e (bt m c' f) (bt n c (f + e)) := by
        rw [bt_step q, bt_step (show f + e < n by omega), show n - (f + e) = m - f by omega, show f + e + 1 = f + 1 + e by omega]
        refine scan_sh (by omega) ⟨rfl, Iff.rfl, fun h => absurd rfl h⟩ fun s h1 h2 => ?_
        unfold cand
        rw [hc, (ih (m - s) (by omega) (f := s) rfl (by omega)).1]
      exact ⟨R.1, fun _ => R⟩
theorem wE_sh {n m e : Nat} {c c' : Nat → Nat → Option Int} (hm : n = m + e) (hc : ∀ f t, c' f t = c (f + e) (t + e)) (ok : COk m c') (ok2 : COk n c) : ∀ {k f : Nat}, f ≤ m → (wE m (bt m c') k f).map (· + (e : Int)) = wE n (bt n c) k (f + e)
  | 0, f, _ => rfl
  | k + 1, f, hf => by
    by_cases q : f < m
    · rw [wE_step q, wE_step (show f + e < n by omega), List.map_cons]
      have R := (bt_sh hm hc (d := m - f) (f := f) rfl hf).2 q
      have p := bt_pos ok q
      have p2 := bt_pos ok2 (show f + e < n by omega)
      have e1 : (bt n c (f + e)).1 = (bt m c' f).1 + e := R.2.2 (by omega)
      rw [e1, wE_sh hm hc ok ok2 (k := k) (f := (bt m c' f).1) p.2]
      congr 1
    · rw [wE_end q, wE_end (by omega)]; rfl
theorem wE_fuel {n : Nat} {c : Nat → Nat → Option Int} (ok : COk n c) : ∀ {k k' f : Nat}, n - f ≤ k → n - f ≤ k' → wE n (bt n c) k f = wE n (bt n c) k' f
  | 0, k', f, h, _ => by rw [wE_end (by omega), wE_end (by omega)]
  | k + 1, 0, f, _, h => by rw [wE_end (by omega), wE_end (by omega)]
  | k + 1, k' + 1, f, h, h' => by
    by_cases q : f < n
    · rw [wE_step q, wE_step q]
      have p := bt_pos ok q
      rw [wE_fuel ok (k := k) (k' := k') (f := (bt n c f).1) (by omega) (by omega)]
    · rw [wE_end q, wE_end q]
theorem sub_drop {l : List ByteArray} {e f t : Nat} : sub (l.drop e) f t = sub l (f + e) (t + e) := by
  unfold sub
  rw [List.drop_drop, show t + e - (f + e) = t - f by omega, Nat.add_comm e f]
theorem cW_drop {l : List ByteArray} {wd : Int} {e : Nat} (he : e ≤ l.length) (f t : Nat) : cWo (l.drop e) wd f t = cWo l wd (f + e) (t + e) := by
  have h : cW (l.drop e) wd f t = cW l wd ((f + e : Nat) : Int) ((t + e : Nat) : Int) := by
    unfold cW rs
    simp only [Int.toNat_natCast, List.length_drop, sub_drop]
    generalize wd + 1 - (sm (sub l (f + e) (t + e)) (sub l (f + e) (t + e)).length : Int) - ((sub l (f + e) (t + e)).length : Int) = r
    have c1 : (0 ≤ (f : Int) ∧ (f : Int) < (t : Int) ∧ (t : Int) ≤ ((l.length - e : Nat) : Int) ∧ 0 ≤ r) ↔ (0 ≤ ((f + e : Nat) : Int) ∧ ((f + e : Nat) : Int) < ((t + e : Nat) : Int) ∧ ((t + e : Nat) : Int) ≤ (l.length : Int) ∧ 0 ≤ r) := by omega
    have c2 : ((t : Int) = ((l.length - e : Nat) : Int)) ↔ (((t + e : Nat) : Int) = (l.length : Int)) := by omega
    simp only [c1, c2]
  unfold cWo
  rw [h]
/-- The lines behind the first one. -/
theorem ww_move {l : List ByteArray} {wd : Int} (h : wwO l wd ≠ []) : ∃ e : Nat, ng (wwO l wd) 0 = e ∧ 1 ≤ e ∧ e ≤ l.length ∧ (wwO (l.drop e) wd).length + 1 = (wwO l wd).length ∧ ∀ i, i < (wwO (l.drop e) wd).length → ng (wwO (l.drop e) wd) i + (e : Int) = ng (wwO l wd) (i + 1) := by
  cases q : (wok l && inB wd 20 60) with
  | false => exact absurd (wwO_no q) h
  | true =>
    rw [wwO_yes q] at h ⊢
    obtain ⟨h1, h2, h3⟩ := ww_parts q
    have ok := cWo_ok h1 h2 h3
    have hn : 0 < l.length := by
      rcases Nat.eq_zero_or_pos l.length with e | e
      · exact absurd (show wW l wd = [] by unfold wW; rw [wE_end (by omega)]) h
      · exact e
    have hp := bt_pos ok hn
    obtain ⟨e, he⟩ : ∃ e, e = (bt l.length (cWo l wd) 0).1 := ⟨_, rfl⟩
    rw [← he] at hp
    have hw2 : WOk (l.drop e) := ⟨fun j hj => by
      rw [List.length_drop] at hj
      have : sg (l.drop e) j = sg l (e + j) := by simp [sg, List.getD, List.getElem?_drop]
      rw [this]
      exact h1.1 _ (by omega), by rw [List.length_drop]; have := h1.2; omega⟩
    have q2 : (wok (l.drop e) && inB wd 20 60) = true := by rw [wok_iff.2 hw2, inB_iff.2 ⟨h2, h3⟩]; rfl
    have ok2 := cWo_ok hw2 h2 h3
    have hl : (l.drop e).length = l.length - e := List.length_drop ..
    have hm : l.length = (l.drop e).length + e := by omega
    have S := wE_sh hm (cW_drop (wd := wd) hp.2) ok2 ok (k := (l.drop e).length) (f := 0) (by omega)
    rw [Nat.zero_add] at S
    have U : wW l wd = (e : Int) :: wE l.length (bt l.length (cWo l wd)) (l.drop e).length e := by
      unfold wW
      obtain ⟨k, hk⟩ : ∃ k, l.length = k + 1 := ⟨l.length - 1, by omega⟩
      conv => lhs; rw [show wE l.length (bt l.length (cWo l wd)) l.length 0 = wE l.length (bt l.length (cWo l wd)) (k + 1) 0 by rw [← hk]]
      rw [wE_step hn, ← he]
      congr 1
      exact wE_fuel ok (by omega) (by omega)
    have V : wW l wd = (e : Int) :: (wW (l.drop e) wd).map (· + (e : Int)) := by rw [U, ← S]; rfl
    refine ⟨e, by rw [V]; rfl, by omega, hp.2, by rw [wwO_yes q2, V]; simp, fun i hi => ?_⟩
    rw [wwO_yes q2] at hi ⊢
    rw [V, ng_cons]
    simp [ng, List.getD, List.getElem?_eq_getElem hi]
theorem ww_bd {l : List ByteArray} {wd : Int} {j : Nat} (hj : j < (wwO l wd).length) : 0 ≤ ng (wwO l wd) j ∧ ng (wwO l wd) j ≤ l.length := by
  cases q : (wok l && inB wd 20 60) with
  | false => rw [wwO_no q] at hj; simp at hj
  | true =>
    rw [wwO_yes q] at hj ⊢
    obtain ⟨h1, h2, h3⟩ := ww_parts q
    have ok := cWo_ok h1 h2 h3
    obtain ⟨p, hp, _, e2⟩ := (wE_at ok (k := l.length) (f := 0) (by omega) (by omega)).1 j hj
    have e2 : ng (wW l wd) j = ((bt l.length (cWo l wd) p).1 : Int) := e2
    have := bt_pos ok hp
    omega
theorem ww_empty {l : List ByteArray} {wd : Int} (h : l = []) : wwO l wd = [] := by
  cases q : (wok l && inB wd 20 60) with
  | false => exact wwO_no q
  | true =>
    rw [wwO_yes q]
    unfold wW
    rw [wE_end (by rw [h]; simp)]
theorem sub_to {l : List ByteArray} {e : Nat} : sub l e l.length = l.drop e := by
  unfold sub
  rw [List.take_of_length_le (by simp)]
set_option maxRecDepth 8000 in
set_option maxHeartbeats 4000000 in
theorem walk_FnWrapMove (a : Option Addr) (n c : Nat) (zs : List Int) (w : World) (hr : IsRow .u8 w a n c zs) :
    Calls Try.prog 12 #[.slice a n c] w fun e w' => e = .returned (.bool true) ∧ Below w.heap.size w w' := by
  have hm := small_rowl hr
  unfold maxLen at hm
  rcases (by omega : 1048576 < n ∨ n ≤ 1048576) with hn | hn
  · go_enter Try.func12, Try.ntmps12
    go_wp2
    go_ret
    exact ⟨rfl, bl_refl _⟩
  go_enter Try.func12, Try.ntmps12
  go_wp2_with fail
  (with_reducible refine (DrawWrapWords_any _ _ _ _ _ hr).mono ?_)
  rintro e u0 ⟨A, cc, l, wd, rfl, hol, hll, hwq, ⟨wd0, wd1⟩, hb⟩
  clear hr
  have R := hide hol.reads
  have HSZ := hide (fun k (hk : k < l.length) => show (sg l k).size ≤ 1048576 by have := hwq k hk; omega)
  have HB := hide hb
  have hcap := hol.cap2
  clear hol hb hwq
  have CI := hide (fun (V : World) (h : SL V A l.length l) => WrapWords_i V A l.length cc l wd h hcap HSZ.out (by omega))
  have CS := hide (fun (V : World) (h : SL V A l.length l) => WrapWords_s V A l.length cc l wd h hcap HSZ.out (by omega))
  have CM := hide (fun (V : World) (b o e d : Nat) (h : SL V (some ⟨b, o, none⟩) l.length l) (he : e ≤ l.length) (hd : l.length - e ≤ d) => WrapWords_i V (some ⟨b, o + e, none⟩) (l.length - e) d (l.drop e) wd (by
    have x := h.sub (f := e) (t := l.length) he (Nat.le_refl _)
    rwa [sub_to] at x) hd (fun k hk => by
    rw [List.length_drop] at hk
    have : sg (l.drop e) k = sg l (e + k) := by simp [sg, List.getD, List.getElem?_drop]
    rw [this]; exact HSZ.out _ (by omega)) (by omega))
  have hlen := wwO_len (l := l) (wd := wd)
  have FACT := hide (fun (h : 2 ≤ (wwO l wd).length) => show ∃ e : Nat, ng (wwO l wd) 0 = e ∧ 1 ≤ e ∧ e < l.length ∧ (wwO (l.drop e) wd).length + 1 = (wwO l wd).length ∧ ∀ i, i < (wwO (l.drop e) wd).length → ng (wwO (l.drop e) wd) i + (e : Int) = ng (wwO l wd) (i + 1) by
    obtain ⟨e, h1, h2, h3, h4, h5⟩ := ww_move (l := l) (wd := wd) (fun x => by rw [x] at h; simp at h)
    refine ⟨e, h1, h2, ?_, h4, h5⟩
    rcases (by omega : e < l.length ∨ e = l.length) with x | x
    · exact x
    · rw [ww_empty (l := l.drop e) (by rw [x]; simp)] at h4
      simp at h4
      omega)
  have BD := hide (fun j => ww_bd (l := l) (wd := wd) (j := j))
  unfold RetI at CI CS CM
  obtain ⟨E, hE⟩ : ∃ E, E = wwO l wd := ⟨_, rfl⟩
  rw [← hE] at CI CS FACT hlen BD
  clear hE
  go_wp2_with fail
  (with_reducible refine (CI.out _ R.out).mono ?_)
  rintro e u1 ⟨A1, c1, rfl, ho1, hb1⟩
  have R1 := hide (R.out.below hb1)
  have HB1 := hide (bl_call hb1 HB.out)
  clear hb1
  go_wp2_with fail
  (with_reducible refine (CS.out _ R1.out).mono ?_)
  rintro e u2 ⟨A2, c2, rfl, ho2, hb2⟩
  have ho1 := ho1.below hb2
  have R2 := hide (R1.out.below hb2)
  have HB2 := hide (bl_call hb2 HB1.out)
  clear hb2
  have E1 := hide ho1.reads
  have E2 := hide ho2.reads
  clear ho1 ho2
  rcases (by omega : E.length < 2 ∨ 2 ≤ E.length) with hz | hz
  · have q0 : (E.length : Int) < 2 := by omega
    clear FACT CM
    go_wp2_with fail
    (with_reducible refine (eqInts_l _ _ _ _ _ _ _ E E E1.out E2.out (by omega) (by omega)).mono ?_)
    rintro e u3 ⟨rfl, j3, rfl⟩
    simp only [decide_true]
    go_wp2_with fail
    (with_reducible refine (CS.out _ (R2.out.drewN j3)).mono ?_)
    rintro e u4 ⟨A4, c4, rfl, ho4, hb4⟩
    have HB4 := hide (bl_call hb4 (bl_drewN HB2.out j3))
    have E3 := hide ((E1.out.drewN j3).below hb4)
    clear hb4
    go_wp2_with fail
    (with_reducible refine (eqInts_l _ _ _ _ _ _ _ E E E3.out ho4.reads (by omega) (by omega)).mono ?_)
    rintro e u5 ⟨rfl, j5, rfl⟩
    simp only [decide_true]
    go_wp2
    go_ret
    exact ⟨rfl, bl_drewN HB4.out _⟩
  · obtain ⟨e0, f1, f2, f3, f4, f5⟩ := FACT.out hz
    obtain ⟨b, o, rfl, hb0, c0⟩ := E1.out.at_ (i := 0) (by omega)
    obtain ⟨b', o', rfl, hb0', c0'⟩ := R2.out.at_ (i := 0) (by omega)
    rw [f1, Nat.add_zero] at c0
    have hq2 : ¬ (E.length : Int) < 2 := by omega
    have g0 : ¬ (e0 : Int) < 1 := by omega
    have g1 : ¬ (l.length : Int) < (e0 : Int) := by omega
    have g2 : e0 ≤ l.length := by omega
    have g3 : ¬ cc = e0 := by omega
    have g4 : 0 < E.length := by omega
    have CAST : ((l.length : Int) - (e0 : Int)) = ((l.length - e0 : Nat) : Int) := by omega
    have CMe := hide (fun (V : World) (h : SL V (some ⟨b', o', none⟩) l.length l) => CM.out V b' o' e0 (cc - e0) h g2 (by omega))
    obtain ⟨F, hF⟩ : ∃ F, F = wwO (l.drop e0) wd := ⟨_, rfl⟩
    rw [← hF] at CMe f4 f5
    have F5 := hide f5
    have F1 := hide f1
    clear FACT CM hF f5 hz f1 c0'
    go_wp2_with fail
    (with_reducible refine (eqInts_l _ _ _ _ _ _ _ E E E1.out E2.out (by omega) (by omega)).mono ?_)
    rintro e u3 ⟨rfl, j3, rfl⟩
    simp only [decide_true]
    go_wp2_with fail
    (with_reducible refine (CMe.out _ (R2.out.drewN j3)).mono ?_)
    rintro e u4 ⟨A4, c4, rfl, ho4, hb4⟩
    have HB4 := hide (bl_call hb4 (bl_drewN HB2.out j3))
    have E3 := hide ((E1.out.drewN j3).below hb4)
    have E4 := hide ho4.reads
    have c0 := keep_cell hb4 c0
    have q4 : ((F.length : Int) != (E.length : Int) - 1) = false := by simp; omega
    clear hb4 ho4
    go_wp2
    go_loopw [7] (fun i u => ∃ p j : Nat, p ≤ F.length ∧ i = .int .i64 p ∧ u = u4.drewN j) (fun i _ => F.length - (intOf i).toNat)
    case atStart => exact ⟨0, 0, by omega, rfl, rfl⟩
    case round =>
      obtain ⟨p, j, hp, rfl, rfl⟩ := hrel
      by_cases hlt : p < F.length
      · obtain ⟨bf, of, rfl, hbf, cf⟩ := E4.out.at_ hlt
        obtain ⟨b2, o2, e2, hb2, ce⟩ := E3.out.at_ (i := p + 1) (by omega)
        injection e2 with e2
        injection e2 with e2 e3
        subst e2 e3
        have hq := F5.out p hlt
        have bd := BD.out (p + 1) (by omega)
        obtain ⟨x, hx⟩ : ∃ x, x = ng F p := ⟨_, rfl⟩
        obtain ⟨y, hy⟩ : ∃ y, y = ng E (p + 1) := ⟨_, rfl⟩
        rw [← hx] at cf hq
        rw [← hy] at ce hq bd
        clear hx hy
        subst hq
        go_wp2
        go_quiet (fail)
        go_wp2
        go_roundw
        case rel => exact ⟨p + 1, _, by omega, by go_num, rfl⟩
        case measure => simp [intOf]; omega
      · go_wp2
        go_ret
        exact ⟨rfl, bl_drewN HB4.out _⟩
set_option maxRecDepth 100000 in
theorem lifted_FnWrapMove (os : Os) (started : os.Started) (H : Type) (enc : TypeId × Value → H) :
    ReturnsInHanded {} Try.checked os 12 .any (Rows.fnWrapMoveSpec.pre6 enc Try.prog Try.f12 Rows.fnWrapMoveRow.domain false) (Rows.fnWrapMoveSpec.post enc Try.prog Try.f12 false true false false) := by
  refine returnsInHanded_of_change (C := Try.checked) own_knob started (by kernel_rfl) Try.func12
    (ChangeSpec.witness6 (enc := enc) (C := Try.checked) false ⟨#[], #[.slice none 0 0], []⟩ 8 (by kernel_rfl) (by kernel_rfl) (by kernel_rfl) (by kernel_rfl)) ?_
  intro W base args ds gs before hval0 hW hcnd _
  have hval : ∀ (j : Nat) t v, Try.f12.params[j]? = some t → args[j]? = some v → Value.okWide Try.prog W .any base t v := hval0
  have hW' := hW
  obtain ⟨p, q, hA0, hV, rfl, hfz, hnd⟩ := hW
  have hA : DataW.TrodAll enc Try.prog W 0 (fun _ => true) true Try.f12.params.toList args.toList ds p := hA0
  rw [Try.params12] at hA hval
  obtain ⟨v0, vs0, d0, ds0, p0, q0, hargs, rfl, rfl, zh0, r0⟩ := trodAll_cons hA
  obtain ⟨rfl, rfl, rfl⟩ := trodAll_nil r0
  obtain rfl : args = #[v0] := by cases args; simp_all
  obtain ⟨rfl, rfl⟩ := trodVars_none hV
  have zk0 := zh0
  have zl0 : ∀ x ∈ p0, x.block < W.heap.size := by obtain ⟨m, hm⟩ := zk0; exact DataW.trod_lt m _ _ _ hm
  clear hA0 hval0
  obtain ⟨a_code, n_code, c_code, rfl⟩ := okWide_slice Try.underlying36 (hval 0 36 v0 rfl rfl)
  obtain ⟨code, w_code⟩ := isRow_of Try.underlying36 Try.underlying5 (by kernel_rfl) zh0
  refine (walk_FnWrapMove a_code n_code c_code code W w_code).mono fun e W' ⟨he, bel⟩ => ?_
  subst he
  exact ⟨_, rfl, _, _, _, [], _, [], hW', trodAll_mk1 (shut_bool Try.underlying4 _), (trodAll_cons_mk (Below.trod laid_out (by kernel_rfl) (of_decide_eq_true (by kernel_rfl)) zk0 bel zl0) trodAll_mk0), rfl, bel.frame _, fun h => by cases h⟩

/-- The statement. -/
theorem FnWrapMove_holds : Rows.FnWrapMoveSaid :=
  OpenClaim.holds_of_wide 12 Try.f12 rfl rfl rfl rfl rfl rfl rfl ⟨rfl, rfl, rfl, rfl, rfl⟩ rfl rfl rfl rfl rfl (by kernel_rfl) Try.func12 (by kernel_rfl)
    (of_decide_eq_true (by kernel_rfl)) (by unfold Func.isWrapper; first | (rw [if_pos (by decide +kernel)]; kernel_rfl) | (rw [if_neg (by decide +kernel)]; exact ⟨rfl, rfl⟩))
    (fun os started H enc _ => lifted_FnWrapMove os started H enc)
end Go.Proofs.Ytmljmcckkbomcaa
