/- Filled texts: the maths, and the model. -/
import Derived.Test.YtlfhfbeacleggaaLwM
import Derived.Test.YtlfhfbeacleggaaFll
import Derived.Deep.AppendLies
import Derived.Test.YtlfhfbeacleggaaApp
namespace Go.Proofs.Ytlfhfbeacleggaa
open Go.ChangeShapes Go.WideShapes Go.ChangeAt Go.RowKit
set_option linter.unusedVariables false
set_option linter.unusedSimpArgs false
open Classical

theorem wpList_append_str_at {P : Program} {ops : Array Oper} {rest : List Oper} {o : Oper} {a : Act} {Q : Exit → Act → World → Prop} {w : World} (hgd : o.guard = none) (s x : Operand) (t : TypeId)
    (ho : o.op = .call { callee := .builtin .append, args := #[s, x], argTypes := #[t, t] })
    (e : TypeId) (i : TypeInfo) (ht : P.underlying t = some (.slice e)) (hi : P.info? e = some i) (hz : i.zero = some (.string ByteArray.empty)) (hsize : i.size = 1) (hby : i.bytes = 16)
    (B : Nat) (A : Option Addr) (c n : Nat) (l : List ByteArray) (hs : a.eval s = .slice A n c) (hn : n = l.length) (hown : OS w e B A c l)
    (b : Nat) (z : ByteArray) (hx : a.eval x = .slice (some ⟨b, 0, none⟩) 1 1) (hc : w.cell? ⟨b, 0, none⟩ = some (.string z)) (hlen : n ≤ 1000000000000) (hB : B ≤ w.heap.size)
    (h : ∀ A' c' w', OS w' e B A' c' (l ++ [z]) → Below B w w' → w.grownBy w' (Value.slice A n c).ownBlock → ((Value.slice A' (n + 1) c').ownBlock = (Value.slice A n c).ownBlock ∨ (Value.slice A' (n + 1) c').ownBlock = some w.heap.size) → wpList P ops Q rest (a.put o.dst (.slice A' (n + 1) c')) w') : wpList P ops Q (o :: rest) a w := by
  subst hn
  refine wpList_append_own_at w hgd s x t ho B e i (.string ByteArray.empty) 1 16 ht hi hz hsize hby rfl (by decide) _ l.length (l.map (Value.string)) hs hown ⟨b, 0, none⟩ 1 1 [(.string z)] hx rfl ?_ ?_ (by unfold maxLen; omega) (by omega) hB ?_
  · intro j u hj
    match j, hj with
    | 0, hj => simp at hj; subst hj; simpa [Addr.add] using hc
  · intro u hu; simp at hu; subst hu; rfl
  · intro v' w' hown' hgr _ hat
    obtain ⟨A', c', rfl, hl, hol⟩ := OS.of_own (l := l ++ [z]) hown' (by simp)
    exact h A' c' w' hol ((Below.refl _ _).grown hgr hB (fun k hk => (hown.own_lt k hk).1)) hgr hat
/-- The spaces that a line gets: none if it is the last one. -/
def lr (l : List ByteArray) (wd : Int) (f t : Nat) : Nat := if t = l.length then 0 else (rs l wd f t).toNat
/-- One line of a filled text. -/
def ln (l : List ByteArray) (wd : Int) (f t : Nat) : ByteArray := mkb (fb (sub l f t) (lr l wd f t) (sub l f t).length)
/-- The first k lines. -/
def ftT (l : List ByteArray) (wd : Int) (E : List Int) : Nat → List ByteArray
  | 0 => []
  | k + 1 => ftT l wd E k ++ [ln l wd (frm 0 E k).toNat (ng E k).toNat]
theorem ftT_len {l : List ByteArray} {wd : Int} {E : List Int} : ∀ {k}, (ftT l wd E k).length = k
  | 0 => rfl
  | k + 1 => by simp [ftT, ftT_len (k := k)]
/-- What FillText answers. -/
noncomputable def ftO (l : List ByteArray) (wd : Int) : List ByteArray := if wok l && inB wd 20 60 then ftT l wd (wW l wd) (wW l wd).length else []
theorem ftO_no {l : List ByteArray} {wd : Int} (h : (wok l && inB wd 20 60) = false) : ftO l wd = [] := by unfold ftO; rw [h]; rfl
theorem ftO_yes {l : List ByteArray} {wd : Int} (h : (wok l && inB wd 20 60) = true) : ftO l wd = ftT l wd (wW l wd) (wW l wd).length := by unfold ftO; rw [h]; rfl
/-- Line k of a wrapped text. -/
theorem ww_line {l : List ByteArray} {wd : Int} (h : (wok l && inB wd 20 60) = true) {k : Nat} (hk : k < (wW l wd).length) : ∃ f t : Nat, frm 0 (wW l wd) k = f ∧ ng (wW l wd) k = t ∧ f < t ∧ t ≤ l.length ∧ 0 ≤ rs l wd f t ∧ rs l wd f t ≤ 61 ∧ (t = l.length ↔ k + 1 = (wW l wd).length) := by
  obtain ⟨h1, h2, h3⟩ := ww_parts h
  have hv := wW_ve h
  obtain ⟨f, t, e1, e2, e3, e4⟩ := ve_at hv hk
  have hq := wW_ok h k hk
  dsimp only at hq
  rw [e1, e2] at hq
  have hr := (cW_true hq).2.2
  have hb := rs_bd (wd := wd) (f := f) h1 e4
  refine ⟨f, t, e1, e2, e3, e4, hr, by omega, ?_, ?_⟩
  · intro x
    rcases (by omega : k + 1 = (wW l wd).length ∨ k + 1 < (wW l wd).length) with y | y
    · exact y
    · obtain ⟨f', t', a1, a2, a3, a4⟩ := ve_at hv y
      rw [frm_succ, e2] at a1
      omega
  · intro x
    have hl := (ve_iff.1 hv).2
    unfold lst at hl
    rw [pv_frm, ← x, frm_succ, e2] at hl
    omega
/-- It returns a list of texts of its own. -/
def RetT (w : World) (l : List ByteArray) (e : Ending) (w' : World) : Prop := ∃ A c, e = .returned (.slice A l.length c) ∧ OS w' 9 w.heap.size A c l ∧ Below w.heap.size w w'
theorem OS.lit00 (w : World) (B : Nat) (hB : B ≤ w.heap.size) : OS (w.alloc (.cells #[] 9)) 9 B (some ⟨w.heap.size, 0, none⟩) 0 [] := by
  have := OS.lit (w := w) (e := 9) hB [] (by simp)
  simpa using this
set_option maxRecDepth 8000 in
set_option maxHeartbeats 4000000 in
theorem FillText_s (w : World) (A : Option Addr) (n c : Nat) (l : List ByteArray) (wd : Int) (ha : SL w A n l) (hc : n ≤ c) (hs : ∀ k, k < l.length → (sg l k).size ≤ 1048576) (hn : n ≤ 1048576) :
    Calls Try.prog 21 #[.slice A n c, .int .i64 wd] w (RetT w (ftO l wd)) := by
  obtain ⟨i0, hi0, jz0, jz1, jz2⟩ := info_parts str_info
  obtain rfl : n = l.length := ha.1
  have HAw := hide ha
  have HA := hide (ha.alloc (.cells #[] 9))
  have VW := hide (validWords_s (w.alloc (.cells #[] 9)) A l.length c l HA.out hs (by omega))
  clear ha hs
  cases qa : wok l
  · have O := hide (ftO_no (l := l) (wd := wd) (by rw [qa]; rfl))
    rw [qa] at VW
    rw [O.out]
    go_enter Try.func21, Try.ntmps21
    go_wp2_with (go_at_call 74; refine (VW.out).mono ?_; rintro e w' ⟨rfl, rfl⟩)
    go_ret
    exact ⟨none, 0, rfl, (by exact World.ownsRow_nil _ _ _ _), bl_alloc (bl_refl _) _⟩
  rw [qa] at VW
  cases qb : inB wd 20 60
  · have O := hide (ftO_no (l := l) (wd := wd) (by rw [qb]; simp))
    rw [O.out]
    go_enter Try.func21, Try.ntmps21
    go_wp2_with first | (go_at_call 74; refine (VW.out).mono ?_; rintro e w' ⟨rfl, rfl⟩) | (go_at_call 75; refine (inRange_any _ _ _ _).mono ?_; rintro e w' ⟨rfl, rfl⟩)
    go_ret
    exact ⟨none, 0, rfl, (by exact World.ownsRow_nil _ _ _ _), bl_alloc (bl_refl _) _⟩
  have Q : Hid ((wok l && inB wd 20 60) = true) := hide (by rw [qa, qb]; rfl)
  have hwk := wok_iff.1 qa
  obtain ⟨w0, w6⟩ := inB_iff.1 qb
  have hl := hwk.2
  have WE := hide (wrapEnds_s (w.alloc (.cells #[] 9)) A l.length c l wd HA.out hc hwk w0 w6)
  have O := hide (ftO_yes Q.out)
  have LN := hide (fun k => ww_line Q.out (k := k))
  have hE40 : (wW l wd).length ≤ 40 := by
    have := wwO_len (l := l) (wd := wd)
    rwa [wwO_yes Q.out] at this
  have HWK := hide hwk
  have H0 := hide (OS.lit00 w w.heap.size (Nat.le_refl _))
  unfold RetI at WE
  rw [O.out]
  obtain ⟨E, hE⟩ : ∃ E, E = wW l wd := ⟨_, rfl⟩
  rw [← hE] at WE LN hE40 ⊢
  clear qa hwk O hE Q
  go_enter Try.func21, Try.ntmps21
  go_wp2_with first | (go_at_call 74; refine (VW.out).mono ?_; rintro e w' ⟨rfl, rfl⟩) | (go_at_call 75; refine (inRange_any _ _ _ _).mono ?_; rintro e w' ⟨rfl, rfl⟩) | (go_at_call 76; (with_reducible refine WE.out.mono ?_); rintro e u1 ⟨A1, c1, rfl, ho, hb⟩)
  clear qb VW WE
  have HS := hide (H0.out.below hb)
  have HO := hide ho
  have HB := hide (bl_call hb (bl_alloc (bl_refl w) (.cells #[] 9)))
  have hge := fun k hk => (ho.own_lt k hk).1
  have HAU := hide (fun (u : World) (h : Below w.heap.size w u) => HAw.out.below h)
  clear ho hb H0
  rcases Nat.eq_zero_or_pos E.length with h0 | h0
  · have T0 := hide (show ftT l wd E E.length = [] by rw [h0]; rfl)
    have hx : ¬ (0 : Int) < (E.length : Int) := by omega
    clear h0 hge HO LN
    go_loopw [5, 7, 8] (fun v f i u => v = .slice (some ⟨w.heap.size, 0, none⟩) 0 0 ∧ i = .int .i64 0 ∧ OS u 9 w.heap.size (some ⟨w.heap.size, 0, none⟩) 0 [] ∧ Below w.heap.size w u) (fun _ _ _ _ => 0)
    case atStart => exact ⟨rfl, rfl, HS.out, HB.out⟩
    case round =>
      obtain ⟨rfl, rfl, hos, hb⟩ := hrel
      have HOS := hide hos
      have HBB := hide hb
      clear hos hb
      go_wp2
      go_ret
      exact ⟨_, _, by rw [T0.out]; rfl, by rw [T0.out]; exact HOS.out, HBB.out⟩
  · obtain ⟨g, rfl, hg0, hg1, _, _⟩ := HO.out.form h0
    have hgB : w.heap.size < g := by simp at hg0; omega
    have CE := hide (fun j (hj : j < E.length) => HO.out.reads.at_ hj)
    have CE0 : Hid (∀ j, j < E.length → u1.cell? ⟨g, j, none⟩ = some (.int .i64 (ng E j))) := hide (fun j hj => by
      obtain ⟨b, o, e, _, hc⟩ := CE.out j hj
      injection e with e
      injection e with e1 e2
      subst e1 e2
      rw [Nat.zero_add] at hc
      exact hc)
    clear CE HO hge
    go_loopw [5, 7, 8] (fun v f i u => ∃ (k p : Nat) (A' : Option Addr) (cc : Nat), k ≤ E.length ∧ i = .int .i64 k ∧ f = .int .i64 p ∧ frm 0 E k = p ∧ v = .slice A' k cc ∧ OS u 9 w.heap.size A' cc (ftT l wd E k) ∧ (∀ j, j < E.length → u.cell? ⟨g, j, none⟩ = some (.int .i64 (ng E j))) ∧ (∀ b, (Value.slice A' k cc).ownBlock = some b → b ≠ g) ∧ g < u.heap.size ∧ Below w.heap.size w u) (fun _ _ i _ => E.length - (intOf i).toNat)
    case atStart => exact ⟨0, 0, _, 0, by omega, rfl, rfl, rfl, rfl, HS.out, CE0.out, fun b hb => by
        have := (HS.out.own_lt b (by simpa using hb)); have h2 : b = w.heap.size := (by simp [Value.ownBlock] at hb; omega)
        omega, by omega, HB.out⟩
    case round =>
      obtain ⟨k, p, A', cc, hk, rfl, rfl, hfp, rfl, hos, hce, hdj, hgu, hbu⟩ := hrel
      have HOS := hide hos
      have HCE := hide hce
      have HDJ := hide hdj
      have HBU := hide hbu
      have hzu := hbu.size
      clear hos hce hdj hbu
      by_cases hlt : k < E.length
      · obtain ⟨f, t, e1, e2, e3, e4, e5, e6, e7⟩ := LN.out k hlt
        obtain rfl : p = f := by omega
        have c0 := HCE.out k hlt
        rw [e2] at c0
        have LK := hide (show ftT l wd E (k + 1) = ftT l wd E k ++ [ln l wd p t] by
          show ftT l wd E k ++ [ln l wd (frm 0 E k).toNat (ng E k).toNat] = _
          rw [hfp, e2]; rfl)
        have hsl := HAU.out wr HBU.out
        obtain ⟨b', o', rfl, hb0', c0'⟩ := hsl.at_ (i := 0) (by omega)
        have sl := sub_len (l := l) (f := p) e4
        have hsub := hsl.sub (f := p) (t := t) (by omega) e4
        have hto := WTo.sub (f := p) HWK.out.1 e4
        have rq : wd - (((sub l p t).length - 1 + sm (sub l p t) (sub l p t).length : Nat) : Int) = rs l wd p t := by unfold rs; omega
        have rb := rs_bd (wd := wd) (f := p) HWK.out e4
        have g1 : p ≤ t := by omega
        have g2 : t ≤ c := by omega
        have g3 : ¬ c = p := by omega
        have CAST : ((t : Int) - (p : Int)) = ((t - p : Nat) : Int) := by omega
        have HLN := hide (show ∀ r, r = lr l wd p t → mkb (fb (sub l p t) r (sub l p t).length) = ln l wd p t from fun r h => by rw [h]; rfl)
        have HLR := hide (show (t = l.length → lr l wd p t = 0) ∧ (t ≠ l.length → lr l wd p t = (rs l wd p t).toNat) from ⟨fun h => if_pos h, fun h => if_neg h⟩)
        have FS := hide (show frm 0 E (k + 1) = t by rw [frm_succ, e2])
        have HLk := hide (ftT_len (l := l) (wd := wd) (E := E) (k := k)).symm
        have J := hide (fun (d : Nat) => joined_s wr (some ⟨b', o' + p, none⟩) (t - p) d _ hsub hto (by rw [sl]; omega))
        have FL := hide (fun (d r : Nat) (wx : Int) (hr : r ≤ 61) (er : wx - (((sub l p t).length - 1 + sm (sub l p t) (sub l p t).length : Nat) : Int) = (r : Int)) (hw : 0 ≤ wx ∧ wx ≤ 100000) => fillLine_s wr (some ⟨b', o' + p, none⟩) (t - p) d r wx _ hsub hto (by rw [sl]; omega) (by rw [sl]; omega) hr er hw)
        have jb0 : (sub l p t).length - 1 + sm (sub l p t) (sub l p t).length ≤ 1000 := by omega
        obtain ⟨jn, hj⟩ : ∃ jn, jn = (sub l p t).length - 1 + sm (sub l p t) (sub l p t).length := ⟨_, rfl⟩
        rw [← hj] at J FL rq jb0
        rcases (by omega : t = l.length ∨ t ≠ l.length) with x | x
        · have q0 : ((k : Int) == (E.length : Int) - 1) = true := beq_iff_eq.2 (by have := e7.1 x; omega)
          have F := hide (fun d => FL.out d 0 (jn : Int) (by omega) (by simp) ⟨by omega, by omega⟩)
          have LE := hide (HLN.out 0 (HLR.out.1 x).symm)
          obtain ⟨z, hz⟩ : ∃ z, z = mkb (fb (sub l p t) 0 (sub l p t).length) := ⟨_, rfl⟩
          rw [← hz] at F LE
          clear hz FL HLN HLR hj e7 x rq hto hsub hsl c0' e2 e1 hfp sl LN
          go_wp2_with fail
          (with_reducible refine (J.out _).mono ?_)
          rintro e w' ⟨rfl, rfl⟩
          go_wp2_with fail
          (with_reducible refine (F.out _).mono ?_)
          rintro e w' ⟨rfl, j, rfl⟩
          have HO2 := hide (HOS.out.drewN j)
          go_wp2_with (at_builtin; go_loud (refine wpList_append_str_at rfl (.tmp 42) (.tmp 52) _ rfl 9 i0 Try.underlying22 hi0 jz0 jz1 jz2 w.heap.size A' cc k (ftT l wd E k) rfl HLk.out (HO2.out.alloc _) wr.heap.size z rfl (by first | (simp [go_sem]; done) | exact cell_new_at (by simp)) (by omega) (by first | (simp; done) | (simp; omega) | omega) ?_); intro A2 c2 w2 hol' hb' hg' hat'; have HC2 := hide (fun j' hj' => hg'.cell (keep_cell (bl_alloc (bl_refl (wr.drewN j)) (.cells #[.string z] 9)) (HCE.out j' hj')) (fun e => HDJ.out g e.symm rfl)); have c0 := hg'.cell (keep_cell (bl_alloc (bl_refl (wr.drewN j)) (.cells #[.string z] 9)) c0) (fun e => HDJ.out g e.symm rfl); have HD2 := hide (fun (b : Nat) (hb : (Value.slice A2 (k + 1) c2).ownBlock = some b) => show b ≠ g from (hat'.elim (fun h => HDJ.out b (h ▸ hb)) (fun h => by rw [h] at hb; injection hb with hb; simp at hb; omega))); have HB2 := hide ((bl_alloc (bl_drewN HBU.out j) (.cells #[.string z] 9)).trans hb'); have HG2 := hide (show g < w2.heap.size by have := hb'.size; simp at this; omega); have HO3 := hide hol'; clear hol' hb' hg' hat')
          go_roundw
          case rel => exact ⟨k + 1, t, A2, c2, by omega, by go_num, rfl, FS.out, rfl, by rw [LK.out, ← LE.out]; exact HO3.out, HC2.out, HD2.out, HG2.out, HB2.out⟩
          case measure => simp [intOf]; omega
        · have q0 : ((k : Int) == (E.length : Int) - 1) = false := beq_eq_false_iff_ne.2 (by
            intro h
            exact x (e7.2 (by omega)))
          have F := hide (fun d => FL.out d (rs l wd p t).toNat wd (by omega) (by omega) ⟨by omega, by omega⟩)
          have LE := hide (HLN.out _ (HLR.out.2 x).symm)
          obtain ⟨z, hz⟩ : ∃ z, z = mkb (fb (sub l p t) (rs l wd p t).toNat (sub l p t).length) := ⟨_, rfl⟩
          rw [← hz] at F LE
          clear hz FL HLN HLR hj e7 x rq hto hsub hsl c0' e2 e1 hfp sl LN J
          go_wp2_with fail
          (with_reducible refine (F.out _).mono ?_)
          rintro e w' ⟨rfl, j, rfl⟩
          have HO2 := hide (HOS.out.drewN j)
          go_wp2_with (at_builtin; go_loud (refine wpList_append_str_at rfl (.tmp 42) (.tmp 52) _ rfl 9 i0 Try.underlying22 hi0 jz0 jz1 jz2 w.heap.size A' cc k (ftT l wd E k) rfl HLk.out (HO2.out.alloc _) wr.heap.size z rfl (by first | (simp [go_sem]; done) | exact cell_new_at (by simp)) (by omega) (by first | (simp; done) | (simp; omega) | omega) ?_); intro A2 c2 w2 hol' hb' hg' hat'; have HC2 := hide (fun j' hj' => hg'.cell (keep_cell (bl_alloc (bl_refl (wr.drewN j)) (.cells #[.string z] 9)) (HCE.out j' hj')) (fun e => HDJ.out g e.symm rfl)); have c0 := hg'.cell (keep_cell (bl_alloc (bl_refl (wr.drewN j)) (.cells #[.string z] 9)) c0) (fun e => HDJ.out g e.symm rfl); have HD2 := hide (fun (b : Nat) (hb : (Value.slice A2 (k + 1) c2).ownBlock = some b) => show b ≠ g from (hat'.elim (fun h => HDJ.out b (h ▸ hb)) (fun h => by rw [h] at hb; injection hb with hb; simp at hb; omega))); have HB2 := hide ((bl_alloc (bl_drewN HBU.out j) (.cells #[.string z] 9)).trans hb'); have HG2 := hide (show g < w2.heap.size by have := hb'.size; simp at this; omega); have HO3 := hide hol'; clear hol' hb' hg' hat')
          go_roundw
          case rel => exact ⟨k + 1, t, A2, c2, by omega, by go_num, rfl, FS.out, rfl, by rw [LK.out, ← LE.out]; exact HO3.out, HC2.out, HD2.out, HG2.out, HB2.out⟩
          case measure => simp [intOf]; omega
      · obtain rfl : k = E.length := by omega
        have L := hide (ftT_len (l := l) (wd := wd) (E := E) (k := E.length))
        clear hfp
        go_wp2
        go_ret
        exact ⟨A', cc, by rw [L.out]; rfl, HOS.out, HBU.out⟩
end Go.Proofs.Ytlfhfbeacleggaa
