/- The least costly division, in the model. -/
import Derived.Test.YtlfhfbeacleggaaLwA
namespace Go.Proofs.Ytlfhfbeacleggaa
open Go.ChangeShapes Go.WideShapes Go.ChangeAt Go.RowKit
set_option linter.unusedVariables false
set_option linter.unusedSimpArgs false
open Classical

def upd (X : Nat → Int) (f : Nat) (z : Int) : Nat → Int := fun s => if s = f then z else X s
theorem upd_same {X : Nat → Int} {f : Nat} {z : Int} : upd X f z f = z := if_pos rfl
theorem upd_other {X : Nat → Int} {f s : Nat} {z : Int} (h : s ≠ f) : upd X f z s = X s := if_neg h
theorem upd_upd {X : Nat → Int} {f : Nat} {y z : Int} : upd (upd X f y) f z = upd X f z := funext fun s => by unfold upd; split <;> rfl
/-- The model's two tables, of costs and of ends. -/
def KX (w u : World) (n : Nat) (X Y : Nat → Int) : Prop :=
  Below w.heap.size w u ∧ w.heap.size + 2 ≤ u.heap.size ∧ (∀ s, s ≤ n → u.cell? ⟨w.heap.size, s, none⟩ = some (.int .i64 (X s)) ∧ u.cell? ⟨w.heap.size + 1, s, none⟩ = some (.int .i64 (Y s))) ∧ ∀ j, u.frozen? ⟨w.heap.size, j, none⟩ = false ∧ u.frozen? ⟨w.heap.size + 1, j, none⟩ = false
section
variable {w u u' : World} {n : Nat} {X Y : Nat → Int}
theorem KX.drewN (h : KX w u n X Y) (k : Nat) : KX w (u.drewN k) n X Y := ⟨bl_drewN h.1 k, h.2⟩
theorem KX.setX (h : KX w u n X Y) {f : Nat} (hf : f ≤ n) (z : Int) : KX w (u.setCell ⟨w.heap.size, f, none⟩ (.int .i64 z)) n (upd X f z) Y :=
  ⟨bl_set h.1 (Nat.le_refl _) _, by simpa using h.2.1, fun s hs => by
    obtain ⟨c0, c1⟩ := h.2.2.1 s hs
    by_cases e : s = f
    · subst e
      exact ⟨by rw [upd_same]; simp [go_sem, c0], by simp [go_sem, c1]⟩
    · have e1 : ¬ f = s := fun x => e x.symm
      exact ⟨by rw [upd_other e]; simp [go_sem, c0, e1], by simp [go_sem, c1]⟩, fun j => by simp only [World.frozen?_setCell]; exact h.2.2.2 j⟩
theorem KX.setY (h : KX w u n X Y) {f : Nat} (hf : f ≤ n) (z : Int) : KX w (u.setCell ⟨w.heap.size + 1, f, none⟩ (.int .i64 z)) n X (upd Y f z) :=
  ⟨bl_set h.1 (by dsimp only; omega) _, by simpa using h.2.1, fun s hs => by
    obtain ⟨c0, c1⟩ := h.2.2.1 s hs
    by_cases e : s = f
    · subst e
      exact ⟨by simp [go_sem, c0], by rw [upd_same]; simp [go_sem, c1]⟩
    · have e1 : ¬ f = s := fun x => e x.symm
      exact ⟨by simp [go_sem, c0], by rw [upd_other e]; simp [go_sem, c1, e1]⟩, fun j => by simp only [World.frozen?_setCell]; exact h.2.2.2 j⟩
theorem KX.belowB (h : KX w u n X Y) {B : Nat} (hb : Below B u u') (hB : w.heap.size + 2 ≤ B) : KX w u' n X Y :=
  ⟨h.1.trans (hb.mono (by omega)), Nat.le_trans h.2.1 hb.size, fun s hs => by
    obtain ⟨c0, c1⟩ := h.2.2.1 s hs
    exact ⟨(hb.cell (p := ⟨w.heap.size, s, none⟩) (by dsimp only; omega)).trans c0, (hb.cell (p := ⟨w.heap.size + 1, s, none⟩) (by dsimp only; omega)).trans c1⟩,
    fun j => ⟨(hb.frozen (p := ⟨w.heap.size, j, none⟩) (by dsimp only; omega)).trans (h.2.2.2 j).1, (hb.frozen (p := ⟨w.heap.size + 1, j, none⟩) (by dsimp only; omega)).trans (h.2.2.2 j).2⟩⟩
end
/-- The least cost so far, -1 for none. -/
def bst1 (a : Nat × Int) : Int := if a.1 = 0 then -1 else a.2
theorem cand_no {l : List ByteArray} {wd : Int} {T : Nat → Nat × Int} {f t : Nat} (h : (cW l wd f t).2 = false) : cand (cWo l wd) T f t = none := by unfold cand; rw [cWo_no h]; rfl
theorem cand_yes {l : List ByteArray} {wd : Int} {T : Nat → Nat × Int} {f t : Nat} (h : (cW l wd f t).2 = true) : cand (cWo l wd) T f t = some ((cW l wd f t).1 + (T t).2) := by unfold cand; rw [cWo_yes h]; rfl
set_option maxRecDepth 8000 in
set_option maxHeartbeats 4000000 in
theorem wrapEnds_s (w : World) (A : Option Addr) (n c : Nat) (l : List ByteArray) (wd : Int) (ha : SL w A n l) (hc : n ≤ c) (hw : WOk l) (w0 : 20 ≤ wd) (w6 : wd ≤ 60) :
    Calls Try.prog 76 #[.slice A n c, .int .i64 wd] w (RetI w (wW l wd)) := by
  obtain rfl : n = l.length := ha.1
  have hl := hw.2
  obtain ⟨i0, hi0, jz0, jz1, jz2⟩ := info_parts int_info
  obtain ⟨M, hM⟩ : ∃ M, M = madeCells (Value.int .i64 0).cells ((((l.length : Nat) : Int) + 1).toNat * i0.size) := ⟨_, rfl⟩
  have hmk : ∀ W : World, (Instr.makeSlice 32 (.int .i64 ((l.length : Int) + 1)) (.int .i64 ((l.length : Int) + 1))).run Try.prog W = .ok (.slice (some ⟨W.heap.size, 0, none⟩) (l.length + 1) (l.length + 1)) (W.alloc (.cells M 3)) := fun W => by
    have h := run_make (P := Try.prog) W 32 3 i0 (.int .i64 0) Try.underlying32 hi0 jz0 .i64 .i64 ((l.length : Int) + 1) ((l.length : Int) + 1) (by omega) (by omega) (by rw [jz2]; omega) (by omega)
    rw [← hM] at h
    simpa using h
  have wl : IntKind.i64.wrap ((l.length : Int) + 1) = (l.length : Int) + 1 := IntWalk.i64_in _ (by omega)
  have HM : ∀ j, j < l.length + 1 → M[j]? = some (.int .i64 0) := fun j hj => by
    have e : (((l.length : Nat) : Int) + 1).toNat * i0.size = l.length + 1 := by rw [jz1]; omega
    rw [hM, e, mc_get hj]
    show some (#[Value.int IntKind.i64 0][j % 1]!) = _
    rw [Nat.mod_one]
    rfl
  have ok := cWo_ok hw w0 w6
  have HK0 : Hid (KX w ((w.alloc (.cells M 3)).alloc (.cells M 3)) l.length (fun _ => 0) (fun _ => 0)) := hide (by
    refine ⟨bl_alloc (bl_alloc (bl_refl _) _) _, by simp, fun s hs => ?_, fun j => ?_⟩
    · have x := HM s (by omega)
      exact ⟨by simp [go_sem, x], by simp [go_sem, x]⟩
    · exact ⟨by simp [go_sem], by simp [go_sem]⟩)
  have JN := hide (fun (u : World) (hu : Below w.heap.size w u) (f t b o d : Nat) (h : SL w (some ⟨b, o, none⟩) l.length l) (hft : f ≤ t) (ht : t ≤ l.length) => joined_s u (some ⟨b, o + f, none⟩) (t - f) d _ ((h.sub (f := f) (t := t) hft ht).below hu) (WTo.sub hw.1 ht) (by rw [sub_len ht]; omega))
  have RB := hide (fun (f t : Nat) (ht : t ≤ l.length) => rs_bd (wd := wd) (f := f) hw ht)
  obtain ⟨T, hT⟩ : ∃ T, T = bt l.length (cWo l wd) := ⟨_, rfl⟩
  have TS := hide (fun f (hf : f < l.length) => bt_step (c := cWo l wd) hf)
  have TE := hide (bt_end (n := l.length) (c := cWo l wd))
  have TP := hide (fun f (hf : f < l.length) => bt_pos ok hf)
  have TB := hide (fun f (hf : f ≤ l.length) => (⟨(bt_bd ok (d := l.length - f) (f := f) rfl hf).1, by have := (bt_bd ok (d := l.length - f) (f := f) rfl hf).2; omega⟩ : 0 ≤ (bt l.length (cWo l wd) f).2 ∧ (bt l.length (cWo l wd) f).2 ≤ 160000))
  have HR := hide (show wW l wd = wE l.length (bt l.length (cWo l wd)) l.length 0 from rfl)
  rw [← hT] at TS TE TP TB HR
  obtain ⟨R, hRd⟩ : ∃ R, R = wW l wd := ⟨_, rfl⟩
  rw [← hRd] at HR ⊢
  have HA := hide ha
  clear ok hT HM hM hRd hw ha
  go_enter Try.func76, Try.ntmps76
  go_wp2
  go_loopw [8] (fun i u => ∃ (d : Nat) (X Y : Nat → Int), d ≤ l.length ∧ (d = 0 ∧ i = .int .i64 (-1) ∨ ∃ f : Nat, d = f + 1 ∧ i = .int .i64 f) ∧ KX w u l.length X Y ∧ (∀ s, d ≤ s → s ≤ l.length → X s = (T s).2) ∧ (∀ s, d ≤ s → s < l.length → Y s = (T s).1) ∧ ∀ s, s < d → Y s = 0) (fun i _ => (intOf i + 1).toNat)
  case atStart =>
    refine ⟨l.length, _, _, by omega, ?_, HK0.out, fun s h1 h2 => ?_, fun s h1 h2 => by omega, fun s h1 => rfl⟩
    · rcases Nat.eq_zero_or_pos l.length with h | h
      · exact .inl ⟨h, int_val (by omega)⟩
      · exact .inr ⟨l.length - 1, by omega, int_val (by omega)⟩
    · obtain rfl : s = l.length := by omega
      rw [TE.out]
  case round =>
    obtain ⟨d, X, Y, hd, hi, hK, hX, hY, hY0⟩ := hrel
    rcases hi with ⟨rfl, rfl⟩ | ⟨f, rfl, rfl⟩
    · have HK := hide hK
      have HY := hide hY
      have H0 : Hid (OL (wr.alloc (.cells #[] 3)) 3 (w.heap.size + 2) (some ⟨wr.heap.size, 0, none⟩) 0 []) := hide (OL.lit (by have := hK.2.1; omega) [] (by simp))
      have hz := hK.2.1
      clear hK hX hY hY0 JN RB HK0 TS TE
      go_wp2
      go_loopw [13, 14] (fun v i u => ∃ (f k : Nat) (A : Option Addr) (c q : Nat) (L : List Int), f ≤ l.length ∧ l.length - f ≤ k ∧ L.length = q ∧ q ≤ f ∧ i = .int .i64 f ∧ v = .slice A q c ∧ R = L ++ wE l.length T k f ∧ OL u 3 (w.heap.size + 2) A c L ∧ KX w u l.length X Y) (fun _ i _ => l.length - (intOf i).toNat)
      case atStart => exact ⟨0, l.length, _, _, 0, [], by omega, by omega, rfl, by omega, rfl, rfl, HR.out, H0.out, HK.out.belowB ((Below.refl (w.heap.size + 2) wr).alloc (by omega) _) (Nat.le_refl _)⟩
      case round =>
        rename World => wq
        obtain ⟨f, k, A2, c2, q, L, hf, hk, hq, hqf, rfl, rfl, hRR, hol, hKq⟩ := hrel
        have HRR := hide hRR
        have HKq := hide hKq
        have HQ := hide hq
        have hzq := hKq.2.1
        clear hRR hKq hq
        by_cases hlt : f < l.length
        · have hc1 := (HKq.out.2.2.1 f hf).2
          rw [HY.out f (by omega) hlt] at hc1
          have htp := TP.out f hlt
          have NX := hide (show R = (L ++ [((T f).1 : Int)]) ++ wE l.length T (k - 1) (T f).1 by
            rw [HRR.out]
            obtain ⟨k', rfl⟩ : ∃ k', k = k' + 1 := ⟨k - 1, by omega⟩
            rw [wE_step hlt]
            simp)
          obtain ⟨y, hy⟩ : ∃ y, y = (T f).1 := ⟨_, rfl⟩
          rw [← hy] at hc1 htp NX
          clear hy HRR
          have hx1 : f < l.length + 1 := by omega
          go_wp2_with ((at_builtin; refine wpList_append_int rfl (.tmp 80) (.tmp 85) _ rfl 3 i0 Try.underlying32 hi0 jz0 jz1 jz2 (w.heap.size + 2) A2 c2 q L rfl (HQ.out.symm) (hol.alloc _) wq.heap.size y rfl (by simp) (by omega) (by simp; omega) ?_; intro A' c' w' hol' hb' hg'); have hBB := ((Below.refl (w.heap.size + 2) wq).alloc (by omega) _).trans hb'; have HK' := hide (HKq.out.belowB hBB (Nat.le_refl _)); have hc1' := (hBB.cell (p := ⟨w.heap.size + 1, f, none⟩) (by dsimp only; omega)).trans hc1; clear hBB hb')
          go_roundw
          case rel => exact ⟨y, k - 1, A', c', q + 1, L ++ [(y : Int)], by omega, by omega, by simp [HQ.out], by omega, rfl, rfl, NX.out, hol', HK'.out⟩
          case measure => simp [intOf]; omega
        · have e : L = R := by rw [HRR.out, wE_end hlt, List.append_nil]
          have HE := hide (show q = R.length by rw [← e, HQ.out])
          have HBL := hide HKq.out.1
          have HO := hide (hol.more (show w.heap.size ≤ w.heap.size + 2 by omega))
          rw [e] at HO
          clear e HRR hol
          go_wp2
          go_ret
          exact ⟨A2, c2, by rw [← HE.out]; rfl, HO.out, HBL.out⟩
    · have HX := hide hX
      have HY := hide hY
      have HY0 := hide hY0
      have hfn : f < l.length := by omega
      have hK1 : KX w wr l.length X (upd Y f ((0 : Nat) : Int)) := by
        rw [show upd Y f ((0 : Nat) : Int) = Y from funext fun s => by unfold upd; split; · next e => rw [e, hY0 f (by omega)]; rfl
                                                                       · rfl]
        exact hK
      have HK := hide hK1
      have HTS := hide (TS.out f hfn)
      clear hK hX hY hY0 hK1
      go_wp2
      go_loopw [9, 10] (fun b i u => ∃ (t : Nat) (a : Nat × Int), f < t ∧ t ≤ l.length + 1 ∧ i = .int .i64 t ∧ b = .int .i64 (bst1 a) ∧ T f = scan (cand (cWo l wd) T f) t (l.length + 1 - t) a ∧ a.1 ≤ l.length ∧ 0 ≤ a.2 ∧ a.2 ≤ 170000 ∧ KX w u l.length X (upd Y f a.1)) (fun _ i _ => l.length + 1 - (intOf i).toNat)
      case atStart => exact ⟨f + 1, (0, 0), by omega, by omega, by go_num, rfl, by rw [HTS.out, show l.length + 1 - (f + 1) = l.length - f by omega], by dsimp only; omega, by simp, by simp, HK.out⟩
      case round =>
        rename World => wq
        obtain ⟨t, a, hft, htn, rfl, rfl, hT, ha1, ha2, ha3, hKq⟩ := hrel
        have HT := hide hT
        have HKq := hide hKq
        have hzq := hKq.2.1
        clear hT hKq HTS
        rcases (by omega : t ≤ l.length ∨ t = l.length + 1) with htl | rfl
        · have cx := (HKq.out.2.2.1 t htl).1
          rw [HX.out t (by omega) htl] at cx
          have cy := (HKq.out.2.2.1 f (by omega)).2
          have fy := (HKq.out.2.2.2 f).2
          have hbq := HKq.out.1
          obtain ⟨b', o', rfl, hb0', c0'⟩ := HA.out.at_ (i := 0) (by omega)
          have J := fun (d : Nat) => JN.out wq hbq f t b' o' d HA.out (by omega) htl
          have rb := RB.out f t htl
          have tbt := TB.out t htl
          have NO := hide (cW_no (l := l) (wd := wd) (f := f) (t := t))
          have LA := hide (cW_last (l := l) (wd := wd) hft)
          have MI := hide (cW_mid (l := l) (wd := wd) hft)
          have sl := sub_len (l := l) (f := f) htl
          have rq : wd - (((sub l f t).length - 1 + sm (sub l f t) (sub l f t).length : Nat) : Int) = rs l wd f t := by unfold rs; omega
          obtain ⟨r, hr⟩ : ∃ r, r = rs l wd f t := ⟨_, rfl⟩
          obtain ⟨jn, hj⟩ : ∃ jn, jn = (sub l f t).length - 1 + sm (sub l f t) (sub l f t).length := ⟨_, rfl⟩
          rw [← hr] at NO LA MI rb rq
          rw [← hj] at rq J
          have HJ := hide J
          have RQ := hide rq
          have jb : jn ≤ 1000 := by omega
          have g1 : f ≤ t := by omega
          have g2 : t ≤ c := by omega
          have g3 : ¬ c = f := by omega
          have CAST : ((t : Int) - (f : Int)) = ((t - f : Nat) : Int) := by omega
          have EVN := hide (fun (h : (cW l wd f t).2 = false) => show T f = a by rw [HT.out, scan_no (cand_no h)])
          have EVY := hide (fun (h : (cW l wd f t).2 = true) => show T f = scan (cand (cWo l wd) T f) (t + 1) (l.length + 1 - (t + 1)) (if a.1 = 0 ∨ (cW l wd f t).1 + (T t).2 < a.2 then (t, (cW l wd f t).1 + (T t).2) else a) by
            rw [HT.out, show l.length + 1 - t = l.length + 1 - (t + 1) + 1 by omega, scan_yes (cand_yes h)])
          have HTE := hide (fun (h : t = l.length) => show (T t).2 = 0 by rw [h, TE.out])
          obtain ⟨x, hx⟩ : ∃ x, x = (T t).2 := ⟨_, rfl⟩
          rw [← hx] at cx EVY HTE tbt
          clear JN RB hr hj rq J sl c0' HT hx hbq
          have hx1 : f < l.length + 1 := by omega
          have hx2 : t < l.length + 1 := by omega
          rcases (by omega : r < 0 ∨ 0 ≤ r ∧ t = l.length ∨ 0 ≤ r ∧ t < l.length) with p | ⟨p, p1⟩ | ⟨p, p1⟩
          · have E := hide (EVN.out (by rw [NO.out p]))
            have p2 : wd - (jn : Int) < 0 := by have := RQ.out; omega
            clear NO LA MI EVN EVY HTE
            have tp := TP.out f hfn; have tb := TB.out f (by omega); rw [E.out] at tp tb; have hb1 : bst1 a = a.2 := (by unfold bst1; rw [if_neg (by omega)]); have cxf := (HKq.out.2.2.1 f (by omega)).1; have fxf := (HKq.out.2.2.2 f).1; have HK9 := hide (HKq.out.setX (f := f) (by omega) (a.2)); rw [hb1]
            go_wp2_with fail
            (with_reducible refine (HJ.out _).mono ?_)
            rintro e w' ⟨rfl, rfl⟩
            go_wp2
            go_roundw
            case rel => exact ⟨f, _, _, by omega, (by
                rcases Nat.eq_zero_or_pos f with h | h
                · exact .inl ⟨h, int_val (by omega)⟩
                · exact .inr ⟨f - 1, by omega, int_val (by omega)⟩), HK9.out, (fun s h1 h2 => by
                by_cases e : s = f
                · rw [e, upd_same, E.out]
                · rw [upd_other e]; exact HX.out s (by omega) h2), (fun s h1 h2 => by
                by_cases e : s = f
                · rw [e, upd_same, E.out]
                · rw [upd_other e]; exact HY.out s (by omega) h2), fun s h1 => by rw [upd_other (by omega)]; exact HY0.out s (by omega)⟩
            case measure => first | (simp [intOf]; done) | (simp [intOf]; omega)
          · have E1 := LA.out p p1
            have SC := EVY.out (by rw [E1])
            have x0 := HTE.out p1
            rw [E1, x0] at SC
            have SC := hide SC
            have p2 : 0 ≤ wd - (jn : Int) := by have := RQ.out; omega
            have p3 : ((t : Int) == (l.length : Int)) = true := beq_iff_eq.2 (by omega)
            have sq := sq_bd p (by omega)
            have RQ1 := RQ.out
            clear NO LA MI EVN EVY HTE E1 p1
            rcases (by omega : a.1 = 0 ∨ (¬ a.1 = 0 ∧ 0 < a.2) ∨ (¬ a.1 = 0 ∧ ¬ 0 < a.2)) with g | ⟨g, g9⟩ | ⟨g, g9⟩
            · have SC1 := hide (show T f = scan (cand (cWo l wd) T f) (t + 1) (l.length + 1 - (t + 1)) (t, 0) by rw [SC.out, if_pos (.inl g)]; (try rfl))
              have hb1 : bst1 a = -1 := by unfold bst1; rw [if_pos g]
              have HK9 := hide (HKq.out.setY (f := f) (by omega) (t : Int))
              rw [upd_upd] at HK9
              rw [hb1]
              clear SC g
              go_wp2_with fail
              (with_reducible refine (HJ.out _).mono ?_)
              rintro e w' ⟨rfl, rfl⟩
              go_wp2
              go_roundw
              case rel => exact ⟨t + 1, (t, 0), by omega, by omega, by go_num, int_val (by unfold bst1; rw [if_neg (by dsimp only; omega)]), SC1.out, htl, by dsimp only; omega, by dsimp only; omega, HK9.out⟩
              case measure => simp [intOf]; omega
            · have SC1 := hide (show T f = scan (cand (cWo l wd) T f) (t + 1) (l.length + 1 - (t + 1)) (t, 0) by rw [SC.out, if_pos (.inr (by omega))]; (try rfl))
              have hb1 : bst1 a = a.2 := by unfold bst1; rw [if_neg g]
              have HK9 := hide (HKq.out.setY (f := f) (by omega) (t : Int))
              rw [upd_upd] at HK9
              rw [hb1]
              clear SC g
              go_wp2_with fail
              (with_reducible refine (HJ.out _).mono ?_)
              rintro e w' ⟨rfl, rfl⟩
              go_wp2
              go_roundw
              case rel => exact ⟨t + 1, (t, 0), by omega, by omega, by go_num, int_val (by unfold bst1; rw [if_neg (by dsimp only; omega)]), SC1.out, htl, by dsimp only; omega, by dsimp only; omega, HK9.out⟩
              case measure => simp [intOf]; omega
            · have SC1 := hide (show T f = scan (cand (cWo l wd) T f) (t + 1) (l.length + 1 - (t + 1)) a by rw [SC.out, if_neg (by omega)])
              have hb1 : bst1 a = a.2 := by unfold bst1; rw [if_neg g]
              rw [hb1]
              clear SC g
              go_wp2_with fail
              (with_reducible refine (HJ.out _).mono ?_)
              rintro e w' ⟨rfl, rfl⟩
              go_wp2
              go_roundw
              case rel => exact ⟨t + 1, a, by omega, by omega, by go_num, int_val hb1.symm, SC1.out, ha1, ha2, ha3, HKq.out⟩
              case measure => simp [intOf]; omega
          · have E1 := MI.out p p1
            have SC := EVY.out (by rw [E1])
            rw [E1] at SC
            have SC := hide SC
            have p2 : 0 ≤ wd - (jn : Int) := by have := RQ.out; omega
            have p3 : ((t : Int) == (l.length : Int)) = false := beq_eq_false_iff_ne.2 (by omega)
            have sq := sq_bd p (by omega)
            have RQ1 := RQ.out
            clear NO LA MI EVN EVY HTE E1
            rcases (by omega : a.1 = 0 ∨ (¬ a.1 = 0 ∧ x + r * r < a.2) ∨ (¬ a.1 = 0 ∧ ¬ x + r * r < a.2)) with g | ⟨g, g9⟩ | ⟨g, g9⟩
            · have SC1 := hide (show T f = scan (cand (cWo l wd) T f) (t + 1) (l.length + 1 - (t + 1)) (t, x + r * r) by rw [SC.out, if_pos (.inl g)]; (try rw [Int.add_comm]))
              have hb1 : bst1 a = -1 := by unfold bst1; rw [if_pos g]
              have HK9 := hide (HKq.out.setY (f := f) (by omega) (t : Int))
              rw [upd_upd] at HK9
              rw [hb1]
              clear SC g
              go_wp2_with fail
              (with_reducible refine (HJ.out _).mono ?_)
              rintro e w' ⟨rfl, rfl⟩
              go_wp2
              go_roundw
              case rel => exact ⟨t + 1, (t, x + r * r), by omega, by omega, by go_num, int_val (by unfold bst1; rw [if_neg (by dsimp only; omega)]), SC1.out, htl, by dsimp only; omega, by dsimp only; omega, HK9.out⟩
              case measure => simp [intOf]; omega
            · have SC1 := hide (show T f = scan (cand (cWo l wd) T f) (t + 1) (l.length + 1 - (t + 1)) (t, x + r * r) by rw [SC.out, if_pos (.inr (by omega))]; (try rw [Int.add_comm]))
              have hb1 : bst1 a = a.2 := by unfold bst1; rw [if_neg g]
              have HK9 := hide (HKq.out.setY (f := f) (by omega) (t : Int))
              rw [upd_upd] at HK9
              rw [hb1]
              clear SC g
              go_wp2_with fail
              (with_reducible refine (HJ.out _).mono ?_)
              rintro e w' ⟨rfl, rfl⟩
              go_wp2
              go_roundw
              case rel => exact ⟨t + 1, (t, x + r * r), by omega, by omega, by go_num, int_val (by unfold bst1; rw [if_neg (by dsimp only; omega)]), SC1.out, htl, by dsimp only; omega, by dsimp only; omega, HK9.out⟩
              case measure => simp [intOf]; omega
            · have SC1 := hide (show T f = scan (cand (cWo l wd) T f) (t + 1) (l.length + 1 - (t + 1)) a by rw [SC.out, if_neg (by omega)])
              have hb1 : bst1 a = a.2 := by unfold bst1; rw [if_neg g]
              rw [hb1]
              clear SC g
              go_wp2_with fail
              (with_reducible refine (HJ.out _).mono ?_)
              rintro e w' ⟨rfl, rfl⟩
              go_wp2
              go_roundw
              case rel => exact ⟨t + 1, a, by omega, by omega, by go_num, int_val hb1.symm, SC1.out, ha1, ha2, ha3, HKq.out⟩
              case measure => simp [intOf]; omega
        · have E := hide (show T f = a by rw [HT.out, Nat.sub_self]; rfl)
          clear HT JN RB
          have hx1 : f < l.length + 1 := by omega
          have tp := TP.out f hfn; have tb := TB.out f (by omega); rw [E.out] at tp tb; have hb1 : bst1 a = a.2 := (by unfold bst1; rw [if_neg (by omega)]); have cxf := (HKq.out.2.2.1 f (by omega)).1; have fxf := (HKq.out.2.2.2 f).1; have HK9 := hide (HKq.out.setX (f := f) (by omega) (a.2)); rw [hb1]
          go_wp2
          go_roundw
          case rel => exact ⟨f, _, _, by omega, (by
              rcases Nat.eq_zero_or_pos f with h | h
              · exact .inl ⟨h, int_val (by omega)⟩
              · exact .inr ⟨f - 1, by omega, int_val (by omega)⟩), HK9.out, (fun s h1 h2 => by
              by_cases e : s = f
              · rw [e, upd_same, E.out]
              · rw [upd_other e]; exact HX.out s (by omega) h2), (fun s h1 h2 => by
              by_cases e : s = f
              · rw [e, upd_same, E.out]
              · rw [upd_other e]; exact HY.out s (by omega) h2), fun s h1 => by rw [upd_other (by omega)]; exact HY0.out s (by omega)⟩
          case measure => first | (simp [intOf]; done) | (simp [intOf]; omega)
end Go.Proofs.Ytlfhfbeacleggaa
