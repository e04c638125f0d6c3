/- SetLine of the model. -/
import Derived.Test.YtmncdpiojhgcdaaSlC
import Derived.Test.YtmncdpiojhgcdaaSf
import Derived.Test.YtmncdpiojhgcdaaApp
import Derived.Test.YtmncdpiojhgcdaaSd
namespace Go.Proofs.Ytmncdpiojhgcdaa
open Go.ChangeShapes Go.WideShapes Go.ChangeAt Go.RowKit
set_option linter.unusedVariables false
set_option linter.unusedSimpArgs false

/-- How far something is moved. -/
def mvd (c T S z : Int) : Int := if 0 < c then shr c z T else -(shr (min (-c) S) z S)
theorem posn_mvd (c T S pw pt ps : Int) : posn c T S pw pt ps = pw + mvd c T S (if 0 < c then pt else ps) := by
  unfold posn mvd
  split <;> omega
theorem mvd_bd {c T S z : Int} (hT : 0 ≤ T) (hS : 0 ≤ S) (hz : 0 ≤ z) (h : z ≤ if 0 < c then T else S) (hc : -61000 ≤ c ∧ c ≤ 61000) : -61000 ≤ mvd c T S z ∧ mvd c T S z ≤ 61000 := by
  unfold mvd
  by_cases q : 0 < c
  · rw [if_pos q] at h ⊢
    have := shr_nn (n := c) (s := z) (a := T) (by omega) hz hT
    have := shr_le (n := c) (s := z) (a := T) (by omega) hz hT h
    omega
  · rw [if_neg q] at h ⊢
    have := shr_nn (n := min (-c) S) (s := z) (a := S) (by omega) hz hS
    have := shr_le (n := min (-c) S) (s := z) (a := S) (by omega) hz hS h
    omega
set_option maxHeartbeats 2000000 in
theorem moved_s (w : World) (c z W T S : Int) (hT : 0 ≤ T ∧ T ≤ 1000000) (hS : 0 ≤ S ∧ S ≤ 1000000) (hz : 0 ≤ z ∧ z ≤ 1000000) (hc : -1000000 ≤ c ∧ c ≤ 1000000) :
    Calls Try.prog 136 #[.int .i64 c, .int .i64 z, gv W T S] w fun e w' => e = .returned (.int .i64 (mvd c T S z)) ∧ Below w.heap.size w w' := by
  by_cases q : 0 < c
  · have E := hide (show mvd c T S z = shr c z T from if_pos q)
    have HS := hide (fun u : World => share_s c z T u ⟨by omega, hc.2⟩ hz hT.1)
    clear hT hS hz hc
    rw [E.out]
    go_enter Try.func136, Try.ntmps136
    go_wp2_with fail
    (with_reducible refine (HS.out _).mono ?_)
    rintro e w' ⟨rfl, rfl⟩
    go_wp2
    go_ret
    exact ⟨rfl, bl_alloc (bl_refl _) _⟩
  · have E := hide (show mvd c T S z = -(shr (min (-c) S) z S) from if_neg q)
    obtain ⟨n, hn⟩ : ∃ n, n = min (-c) S := ⟨_, rfl⟩
    rw [← hn] at E
    have HS := hide (fun u : World => share_s n z S u ⟨by omega, by omega⟩ hz hS.1)
    have wn : IntKind.i64.wrap (-c) = -c := IntWalk.i64_in _ (by omega)
    have b1 := shr_nn (n := n) (s := z) (a := S) (by omega) hz.1 hS.1
    have m1 := mul_bd (n := n) (s := z) (by omega) hz
    have b2 : shr n z S ≤ n * z := by
      unfold shr
      split
      · omega
      · exact Int.ediv_le_self _ m1.1
    obtain ⟨v, hv⟩ : ∃ v, v = shr n z S := ⟨_, rfl⟩
    rw [← hv] at E HS b1 b2
    have wv : IntKind.i64.wrap (-v) = -v := IntWalk.i64_in _ (by omega)
    rw [E.out]
    rcases (by omega : (-c ≤ S ∧ n = -c) ∨ (S < -c ∧ n = S)) with ⟨g, e2⟩ | ⟨g, e2⟩
    · clear hT hS hz hc b1 b2 m1 hv hn
      subst e2
      have g1 : ¬ S < -c := by omega
      go_enter Try.func136, Try.ntmps136
      go_wp2_with fail
      (with_reducible refine (HS.out _).mono ?_)
      rintro e w' ⟨rfl, rfl⟩
      go_wp2
      go_ret
      exact ⟨rfl, bl_alloc (bl_refl _) _⟩
    · clear hT hS hz hc b1 b2 m1 hv hn
      subst e2
      have g1 : ¬ -c ≤ n := by omega
      go_enter Try.func136, Try.ntmps136
      go_wp2_with fail
      (with_reducible refine (HS.out _).mono ?_)
      rintro e w' ⟨rfl, rfl⟩
      go_wp2
      go_ret
      exact ⟨rfl, bl_alloc (bl_refl _) _⟩
/-- A glue at block b. -/
structure GL (u : World) (b : Nat) (W T S : Int) : Prop where
  c0 : u.cell? ⟨b, 0, none⟩ = some (.int .i64 W)
  c1 : u.cell? ⟨b, 1, none⟩ = some (.int .i64 T)
  c2 : u.cell? ⟨b, 2, none⟩ = some (.int .i64 S)
section
variable {u u' : World} {b n : Nat} {W T S : Int}
theorem GL.lt (h : GL u b W T S) : b < u.heap.size := World.block_lt_of_cell? u _ h.c0
theorem GL.kept (h : GL u b W T S) {row : Option Nat} (hg : u.grownBy u' row) (hr : row ≠ some b) : GL u' b W T S := by
  have hc : ∀ j, u'.cell? ⟨b, j, none⟩ = u.cell? ⟨b, j, none⟩ := fun j => hg.cell_far ⟨b, j, none⟩ h.lt (fun e => hr e.symm)
  exact ⟨(hc 0).trans h.c0, (hc 1).trans h.c1, (hc 2).trans h.c2⟩
theorem GL.below (h : GL u b W T S) (hb : Below u.heap.size u u') : GL u' b W T S :=
  h.kept (row := none) ⟨hb.os, hb.tape, hb.output, hb.size, fun i hi _ => hb.block i hi⟩ (by simp)
theorem gl_made (u : World) (W T S : Int) : GL (u.alloc (.cells #[.int .i64 W, .int .i64 T, .int .i64 S] 43)) u.heap.size W T S := by
  constructor <;> simp [go_sem]
end
set_option maxRecDepth 8000 in
set_option maxHeartbeats 8000000 in
theorem setLine_s (w : World) (A : Option Addr) (c0 : Nat) (L : List It) (h : TL w A L.length L) (hall : ∀ i, i < L.length → itOk (tg L i) = true) (h1 : 1 ≤ L.length ∧ L.length ≤ 60) (a : Int) (p q : Nat) (hp : a + 1 = (p : Int)) (hpl : p ≤ q) (hq : q < L.length) (hnf : nF L p = nF L q) (d : Int) (hd1 : 1 ≤ d) (hd2 : d ≤ 10000) :
    Calls Try.prog 90 #[.slice A L.length c0, .int .i64 a, .int .i64 q, .int .i64 d] w (RetL w (setL L a d q)) := by
  obtain ⟨i0, hi0, jz0, jz1, jz2⟩ := info_parts int_info
  have HI := hide h
  have H0 : Hid (OL (w.alloc (.cells #[] 3)) 3 w.heap.size (some ⟨w.heap.size, 0, none⟩) 0 []) := hide (by
    have := OL.lit (w := w) (e := 3) (B := w.heap.size) (Nat.le_refl _) [] (by simp)
    simpa using this)
  have HST := hide (fun (u : World) (hu : TL u A L.length L) => lineStart_s u A c0 L hu (by omega) a p hp (by omega))
  have HLG := lineGlue_s (w.alloc (.cells #[] 3)) A c0 L (h.alloc _) hall h1.2 a p q hp (by omega) hq
  have hsm := stS_min hpl (by omega) hnf
  rw [hsm] at HLG
  have hsq : min (fBx L p) q ≤ q := Nat.min_le_right _ _
  obtain ⟨e1, e2, e3⟩ := lg_eqs (L := L) (q := q) hp
  have SA : stA L a q = min (fBx L p) q := by unfold stA; rw [hp]; rfl
  obtain ⟨F, HEQ⟩ : ∃ F, F = setL L a d q := ⟨_, rfl⟩
  rw [← HEQ]
  unfold setL at HEQ
  rw [SA, e1, e2, e3] at HEQ
  obtain ⟨s, hs⟩ : ∃ s, s = min (fBx L p) q := ⟨_, rfl⟩
  rw [← hs] at HLG HEQ hsq hsm
  obtain ⟨st, hst⟩ : ∃ st, st = stS L p := ⟨_, rfl⟩
  rw [← hst] at HST hsm
  have hsl : st ≤ 60 := by have := stS_in (L := L) (p := p) (by omega); omega
  have bq := s_bd hall (k := q) (by omega)
  have bs := s_bd hall (k := s) (by omega)
  have bsq := s_mono hall (a := s) (k := q) hsq (by omega)
  have ab : 0 ≤ atW (tg L q) ∧ atW (tg L q) ≤ 1000 := by
    rcases iok_iff.1 (hall q hq) with h | h | h <;> (unfold atW; split <;> omega)
  obtain ⟨z, hz⟩ : ∃ x, x = atW (tg L q) := ⟨_, rfl⟩
  rw [← hz] at HEQ HLG ab
  obtain ⟨W, hW⟩ : ∃ x, x = sW L q - sW L s + z := ⟨_, rfl⟩
  obtain ⟨T, hT⟩ : ∃ x, x = sT L q - sT L s := ⟨_, rfl⟩
  obtain ⟨S, hS⟩ : ∃ x, x = sS L q - sS L s := ⟨_, rfl⟩
  rw [← hW, ← hT, ← hS] at HLG HEQ
  have bW : 0 ≤ W ∧ W ≤ 61000 := by omega
  have bT : 0 ≤ T ∧ T ≤ 60000 := by omega
  have bS : 0 ≤ S ∧ S ≤ 60000 := by omega
  have HLGH := hide HLG
  obtain ⟨c, hc⟩ : ∃ c, c = d - W := ⟨_, rfl⟩
  rw [← hc] at HEQ
  have bc0 : -61000 ≤ c ∧ c ≤ 10000 := by omega
  have wc : IntKind.i64.wrap (d - W) = c := by rw [hc]; exact IntWalk.i64_in _ (by omega)
  have wc' : d - W = c := hc.symm
  have HALL := hide hall
  have HZ := hide hz
  have HW := hide hW
  have HT := hide hT
  have HS := hide hS
  have AB := hide ab
  have MB := hide (fun k (hk1 : s ≤ k) (hk2 : k ≤ q) => show (0 ≤ sW L k - sW L s ∧ sW L k - sW L s ≤ 60000) ∧ (0 ≤ sT L k - sT L s ∧ sT L k - sT L s ≤ T) ∧ (0 ≤ sS L k - sS L s ∧ sS L k - sS L s ≤ S) from by
    have a1 := s_mono hall (a := s) (k := k) hk1 (by omega)
    have a2 := s_mono hall (a := k) (k := q) hk2 (by omega)
    have a3 := s_bd hall (k := k) (by omega)
    omega)
  have HSM := hide hsm
  have HEQ' := hide HEQ
  have HB0 := hide (bl_alloc (bl_refl w) (.cells #[] 3))
  clear HEQ hall hs hz hW hT hS hc SA e1 e2 e3 bq bs bsq ab HLG hp hst hnf h hsm
  go_enter Try.func90, Try.ntmps90
  go_wp2_with fail
  (with_reducible refine HLGH.out.mono ?_)
  rintro e u1 ⟨rfl, hb⟩
  have HB1 := hide (bl_call hb HB0.out)
  have HO1 := hide ((H0.out.below hb).alloc (.cells #[.int .i64 W, .int .i64 T, .int .i64 S] 43))
  have z1 : w.heap.size + 1 ≤ u1.heap.size := by have := hb.size; simp at this; omega
  have HG1 := hide (gl_made u1 W T S)
  have HB2 := hide (bl_alloc HB1.out (.cells #[.int .i64 W, .int .i64 T, .int .i64 S] 43))
  clear hb HLGH H0 HB0
  go_wp2_with fail
  (with_reducible refine (HST.out _ (HI.out.below HB2.out)).mono ?_)
  rintro e w' ⟨rfl, rfl⟩
  go_wp2
  clear HST
  go_loopw [9, 12, 13, 14] (fun t x y i u => ∃ (j k : Nat) (A2 : Option Addr) (m cc : Nat), (j = k ∨ (q < j ∧ k = q)) ∧ s ≤ k ∧ k ≤ q ∧ t = .slice A2 m cc ∧ x = .int .i64 (sW L k - sW L s) ∧ y = .int .i64 (if 0 < c then sT L k - sT L s else sS L k - sS L s) ∧ i = .int .i64 j ∧ m = (stN L c T S s (k - s)).length ∧ GL u u1.heap.size W T S ∧ OL u 3 w.heap.size A2 cc (stN L c T S s (k - s)) ∧ (∀ b, (Value.slice A2 m cc).ownBlock = some b → b = u1.heap.size → False) ∧ Below w.heap.size w u) (fun _ _ _ i _ => q - (intOf i).toNat)
  case atStart => exact ⟨st, s, some ⟨w.heap.size, 0, none⟩, 0, 0, by have := HSM.out; omega, Nat.le_refl _, hsq, rfl, by rw [Int.sub_self], by simp only [Int.sub_self, ite_self], rfl, by rw [Nat.sub_self]; rfl, HG1.out, by rw [Nat.sub_self]; exact HO1.out, fun b e e' => by (have e : w.heap.size = b := Option.some.inj e); omega, HB2.out⟩
  case round =>
    obtain ⟨j, k, A2, m, cc, hjk, hsk, hkq, rfl, rfl, rfl, rfl, hm, hgl, hol, hne, hbl⟩ := hrel
    have hmk : m ≤ k - s := by rw [hm]; exact stN_len L c T S s (k - s)
    have HM := hide hm
    have HBL := hide hbl
    have HGL := hide hgl
    have HOL := hide hol
    have HNE := hide hne
    have hzr : u1.heap.size + 1 ≤ wr.heap.size := hgl.lt
    have q0 := hgl.c0
    have q1 := hgl.c1
    have q2 := hgl.c2
    obtain ⟨⟨w1, w2⟩, ⟨t1, t2⟩, ⟨x1, x2⟩⟩ := MB.out k hsk hkq
    have PM := posn_mvd c T S (sW L k - sW L s) (sT L k - sT L s) (sS L k - sS L s)
    have yb : 0 ≤ (if 0 < c then sT L k - sT L s else sS L k - sS L s) ∧ (if 0 < c then sT L k - sT L s else sS L k - sS L s) ≤ (if 0 < c then T else S) := by
      by_cases q : 0 < c
      · rw [if_pos q, if_pos q]; omega
      · rw [if_neg q, if_neg q]; omega
    have ym : (if 0 < c then T else S) ≤ 60000 := by split <;> omega
    have mb := mvd_bd bT.1 bS.1 yb.1 yb.2 (by omega)
    have NXY := fun (it is : Int) (e1 : sT L (k + 1) = sT L k + it) (e2 : sS L (k + 1) = sS L k + is) => show (if 0 < c then sT L (k + 1) - sT L s else sS L (k + 1) - sS L s) = (if 0 < c then sT L k - sT L s else sS L k - sS L s) + (if 0 < c then it else is) from by
      rw [e1, e2]; split <;> omega
    obtain ⟨y, hy⟩ : ∃ y, y = if 0 < c then sT L k - sT L s else sS L k - sS L s := ⟨_, rfl⟩
    rw [← hy] at PM yb mb NXY ⊢
    obtain ⟨mv, hmv⟩ : ∃ x, x = mvd c T S y := ⟨_, rfl⟩
    obtain ⟨y1, y2⟩ := yb
    have HMV := hide (fun u : World => moved_s u c y W T S ⟨by omega, by omega⟩ ⟨by omega, by omega⟩ ⟨by omega, by omega⟩ ⟨by omega, by omega⟩)
    rw [← hmv] at PM mb HMV
    obtain ⟨m1, m2⟩ := mb
    obtain ⟨pw, hpw⟩ : ∃ x, x = sW L k - sW L s := ⟨_, rfl⟩
    have wz : IntKind.i64.wrap (pw + mv) = pw + mv := IntWalk.i64_in _ (by omega)
    by_cases hlt : j < q
    · obtain rfl : j = k := by omega
      have hkl : j < L.length := by omega
      have hkl2 : (j : Int) < (L.length : Int) := by omega
      obtain ⟨b, o, rfl, hb0, d0, d1, d2, d3, d4, d5⟩ := HI.out.at6 hkl
      have c0 := (hbl.cell (p := ⟨b, o + j * 6, none⟩) hb0).trans d0
      have c1 := (hbl.cell (p := ⟨b, o + j * 6 + 1, none⟩) hb0).trans d1
      have c2 := (hbl.cell (p := ⟨b, o + j * 6 + 2, none⟩) hb0).trans d2
      have c3 := (hbl.cell (p := ⟨b, o + j * 6 + 3, none⟩) hb0).trans d3
      have IO := iok_iff.1 (HALL.out j hkl)
      have eW : sW L (j + 1) = sW L j + inW (tg L j) := rfl
      have eT : sT L (j + 1) = sT L j + inT (tg L j) := rfl
      have eS : sS L (j + 1) = sS L j + inS (tg L j) := rfl
      have nb := MB.out (j + 1) (by omega) (by omega)
      have e0 : s + (j - s) = j := by omega
      have e9 : j + 1 - s = j - s + 1 := by omega
      obtain ⟨wd, hwd⟩ : ∃ x, x = (tg L j).w := ⟨_, rfl⟩
      obtain ⟨ts, hts⟩ : ∃ x, x = (tg L j).st := ⟨_, rfl⟩
      obtain ⟨ss, hss⟩ : ∃ x, x = (tg L j).sh := ⟨_, rfl⟩
      rw [← hwd] at c1
      rw [← hts] at c2
      rw [← hss] at c3
      rcases IO with IO | IO | IO
      · have k1 : (tg L j).k = 1 := by omega
        have iB : isB (tg L j) = true := by unfold isB; rw [k1]; rfl
        have nW : inW (tg L j) = wd := by unfold inW; rw [if_neg (by omega)]; exact hwd.symm
        have nT : inT (tg L j) = 0 := by unfold inT; rw [if_neg (by omega)]
        have nS : inS (tg L j) = 0 := by unfold inS; rw [if_neg (by omega)]
        have ST := stN_yes (L := L) (c := c) (T := T) (S := S) (s := s) (d := j - s) (by rw [e0]; exact iB)
        rw [e0] at ST
        unfold posA at ST
        rw [PM, ← hpw, ← e9] at ST
        have HST1 := hide ST
        have NW := hide (show sW L (j + 1) - sW L s = pw + wd from by rw [eW, nW, hpw]; omega)
        have NY := hide (show (if 0 < c then sT L (j + 1) - sT L s else sS L (j + 1) - sS L s) = y from by rw [NXY 0 0 (by rw [eT, nT]) (by rw [eS, nS])]; simp)
        have ww : IntKind.i64.wrap (pw + wd) = pw + wd := IntWalk.i64_in _ (by omega)
        rw [k1] at c0
        rw [← hpw]
        clear ST NXY PM hy hmv hpw hwd hts hss IO eW eT eS nW nT nS iB k1 nb d0 d1 d2 d3 d4 d5 c2 c3 hm hgl hol hne hbl
        go_wp2_with (first | (go_at_call 136; (with_reducible refine (HMV.out _).mono ?_); rintro e u5 ⟨rfl, hb5⟩; (try (with_reducible have hb5 := bl_undrew hb5)); have HG5 := hide (HGL.out.below hb5); have HO5 := hide (HOL.out.below hb5); have z5 := Nat.le_trans hzr hb5.size; have HB5 := hide (HBL.out.trans (hb5.mono (by omega))); have c1 := keep_cell hb5 c1; have q0 := HG5.out.c0; have q1 := HG5.out.c1; have q2 := HG5.out.c2; clear hb5) | (at_builtin; (refine wpList_append_int_at rfl (.tmp 39) (.tmp 46) _ rfl 3 i0 Try.underlying30 hi0 jz0 jz1 jz2 w.heap.size A2 cc m (stN L c T S s (j - s)) rfl HM.out (HO5.out.alloc _) u5.heap.size (pw + mv) rfl (by simp) (by omega) (by simp; omega) ?_); intro A' c' w' hol' hb' hg' hat'; go_loud (have HG6 := hide ((HG5.out.below (bl_alloc (bl_refl _) _)).kept hg' (fun e => HNE.out _ e rfl)); have HO6 := hide hol'; have hb6 := ((bl_alloc (bl_refl u5) _).mono (show w.heap.size ≤ u5.heap.size by omega)).trans hb'; have HB6 := hide (HB5.out.trans hb6); have z6 := Nat.le_trans z5 hb6.size; have c1 := (hb6.cell (show b < w.heap.size from hb0)).trans c1; have HN6 := hide (fun k' (e : (Value.slice A' (m + 1) c').ownBlock = some k') (e' : k' = u1.heap.size) => (by (rcases hat' with r | r); (next => exact HNE.out k' (r ▸ e) e'); (next => (rw [r] at e; have e := Option.some.inj e; simp at e; omega)) : False)); clear hol' hb' hg' hat' hb6)))
        go_roundw
        case rel => exact ⟨j + 1, j + 1, A', m + 1, c', .inl rfl, by omega, by omega, rfl, by rw [NW.out], by rw [NY.out], by go_num, by rw [HST1.out, List.length_append, ← HM.out]; rfl, HG6.out, by rw [HST1.out]; exact HO6.out, HN6.out, HB6.out⟩
        case measure => simp [intOf]; omega
      · have k2 : (tg L j).k = 2 := by omega
        have iB : isB (tg L j) = false := by unfold isB; rw [k2]; rfl
        have nW : inW (tg L j) = wd := by unfold inW; rw [if_neg (by omega)]; exact hwd.symm
        have nT : inT (tg L j) = ts := by unfold inT; rw [if_pos k2]; exact hts.symm
        have nS : inS (tg L j) = ss := by unfold inS; rw [if_pos k2]; exact hss.symm
        have ST := stN_no (L := L) (c := c) (T := T) (S := S) (s := s) (d := j - s) (by rw [e0]; exact iB)
        rw [← e9] at ST
        have HST1 := hide ST
        have NW := hide (show sW L (j + 1) - sW L s = pw + wd from by rw [eW, nW, hpw]; omega)
        have NY := hide (NXY ts ss (by rw [eT, nT]) (by rw [eS, nS]))
        have ww : IntKind.i64.wrap (pw + wd) = pw + wd := IntWalk.i64_in _ (by omega)
        have wt : IntKind.i64.wrap (y + ts) = y + ts := IntWalk.i64_in _ (by omega)
        have ws : IntKind.i64.wrap (y + ss) = y + ss := IntWalk.i64_in _ (by omega)
        rw [k2] at c0
        rw [← hpw]
        clear ST NXY PM hy hmv hpw hwd hts hss IO eW eT eS nW nT nS iB k2 nb d0 d1 d2 d3 d4 d5 hm hgl hol hne hbl HMV
        by_cases qc : 0 < c
        · have NY1 := hide (NY.out.trans (by rw [if_pos qc]))
          go_wp2
          go_roundw
          case rel => exact ⟨j + 1, j + 1, A2, m, cc, .inl rfl, by omega, by omega, rfl, by rw [NW.out], by rw [NY1.out], by go_num, by rw [HST1.out]; exact HM.out, HGL.out, by rw [HST1.out]; exact HOL.out, HNE.out, HBL.out⟩
          case measure => simp [intOf]; omega
        · have NY1 := hide (NY.out.trans (by rw [if_neg qc]))
          go_wp2
          go_roundw
          case rel => exact ⟨j + 1, j + 1, A2, m, cc, .inl rfl, by omega, by omega, rfl, by rw [NW.out], by rw [NY1.out], by go_num, by rw [HST1.out]; exact HM.out, HGL.out, by rw [HST1.out]; exact HOL.out, HNE.out, HBL.out⟩
          case measure => simp [intOf]; omega
      · have k3 : (tg L j).k = 3 := by omega
        have iB : isB (tg L j) = false := by unfold isB; rw [k3]; rfl
        have nW : inW (tg L j) = 0 := by unfold inW; rw [if_pos k3]
        have nT : inT (tg L j) = 0 := by unfold inT; rw [if_neg (by omega)]
        have nS : inS (tg L j) = 0 := by unfold inS; rw [if_neg (by omega)]
        have ST := stN_no (L := L) (c := c) (T := T) (S := S) (s := s) (d := j - s) (by rw [e0]; exact iB)
        rw [← e9] at ST
        have HST1 := hide ST
        have NW := hide (show sW L (j + 1) - sW L s = pw from by rw [eW, nW, hpw]; omega)
        have NY := hide (show (if 0 < c then sT L (j + 1) - sT L s else sS L (j + 1) - sS L s) = y from by rw [NXY 0 0 (by rw [eT, nT]) (by rw [eS, nS])]; simp)
        rw [k3] at c0
        rw [← hpw]
        clear ST NXY PM hy hmv hpw hwd hts hss IO eW eT eS nW nT nS iB k3 nb d0 d1 d2 d3 d4 d5 hm hgl hol hne hbl HMV
        go_wp2
        go_roundw
        case rel => exact ⟨j + 1, j + 1, A2, m, cc, .inl rfl, by omega, by omega, rfl, by rw [NW.out], by rw [NY.out], by go_num, by rw [HST1.out]; exact HM.out, HGL.out, by rw [HST1.out]; exact HOL.out, HNE.out, HBL.out⟩
        case measure => simp [intOf]; omega
    · obtain rfl : q = k := by omega
      have hq2 : (q : Int) < (L.length : Int) := by omega
      have hjq : ¬ ((j : Int) < (q : Int)) := by omega
      obtain ⟨b, o, rfl, hb0, d0, d1, d2, d3, d4, d5⟩ := HI.out.at6 hq
      have c0 := (hbl.cell (p := ⟨b, o + q * 6, none⟩) hb0).trans d0
      have c1 := (hbl.cell (p := ⟨b, o + q * 6 + 1, none⟩) hb0).trans d1
      have ey : y = if 0 < c then T else S := by rw [hy, ← HT.out, ← HS.out]
      have HP := posn_mvd c T S W T S
      rw [← ey, ← hmv] at HP
      have HF := HEQ'.out
      rw [HP] at HF
      have HFF := hide HF
      have eW := HW.out
      rw [← hpw] at eW ⊢
      have hzz := HZ.out
      unfold atW at hzz
      have w9 : IntKind.i64.wrap (W + mv) = W + mv := IntWalk.i64_in _ (by omega)
      obtain ⟨wd, hwd⟩ : ∃ x, x = (tg L q).w := ⟨_, rfl⟩
      rw [← hwd] at c1 hzz
      obtain ⟨kx, hkx⟩ : ∃ x, x = (tg L q).k := ⟨_, rfl⟩
      rw [← hkx] at c0 hzz
      clear NXY PM hmv hwd hkx d0 d1 d2 d3 d4 d5 hm hgl hol hne HP HF ey hy hlt wz
      rcases (by omega : kx = 3 ∨ kx ≠ 3) with rfl | k3
      · rw [if_pos rfl] at hzz
        have ww : IntKind.i64.wrap (pw + wd) = W := by rw [eW, hzz]; exact IntWalk.i64_in _ (by omega)
        clear hzz eW hpw hbl
        go_wp2_with (first | (go_at_call 136; (with_reducible refine (HMV.out _).mono ?_); rintro e u5 ⟨rfl, hb5⟩; (try (with_reducible have hb5 := bl_undrew hb5)); have HG5 := hide (HGL.out.below hb5); have HO5 := hide (HOL.out.below hb5); have z5 := Nat.le_trans hzr hb5.size; have HB5 := hide (HBL.out.trans (hb5.mono (by omega))); have q0 := HG5.out.c0; have q1 := HG5.out.c1; have q2 := HG5.out.c2; clear hb5) | (at_builtin; (refine wpList_append_int_at rfl (.tmp 98) (.tmp 105) _ rfl 3 i0 Try.underlying30 hi0 jz0 jz1 jz2 w.heap.size A2 cc m (stN L c T S s (q - s)) rfl HM.out (HO5.out.alloc _) u5.heap.size (W + mv) rfl (by simp) (by omega) (by simp; omega) ?_); intro A' c' w' hol' hb' hg' hat'; go_loud (have HG6 := hide ((HG5.out.below (bl_alloc (bl_refl _) _)).kept hg' (fun e => HNE.out _ e rfl)); have HO6 := hide hol'; have hb6 := ((bl_alloc (bl_refl u5) _).mono (show w.heap.size ≤ u5.heap.size by omega)).trans hb'; have HB6 := hide (HB5.out.trans hb6); have z6 := Nat.le_trans z5 hb6.size; have HN6 := hide (fun k' (e : (Value.slice A' (m + 1) c').ownBlock = some k') (e' : k' = u1.heap.size) => (by (rcases hat' with r | r); (next => exact HNE.out k' (r ▸ e) e'); (next => (rw [r] at e; have e := Option.some.inj e; simp at e; omega)) : False)); clear hol' hb' hg' hat' hb6)))
        go_ret
        exact ⟨A', c', by rw [HFF.out, List.length_append, ← HM.out]; rfl, by rw [HFF.out]; exact HO6.out, HB6.out⟩
      · rw [if_neg k3] at hzz
        have g3 : (kx == 3) = false := beq_eq_false_iff_ne.2 k3
        obtain rfl : W = pw := by omega
        clear hzz eW hpw hbl k3
        go_wp2_with (first | (go_at_call 136; (with_reducible refine (HMV.out _).mono ?_); rintro e u5 ⟨rfl, hb5⟩; (try (with_reducible have hb5 := bl_undrew hb5)); have HG5 := hide (HGL.out.below hb5); have HO5 := hide (HOL.out.below hb5); have z5 := Nat.le_trans hzr hb5.size; have HB5 := hide (HBL.out.trans (hb5.mono (by omega))); have q0 := HG5.out.c0; have q1 := HG5.out.c1; have q2 := HG5.out.c2; clear hb5) | (at_builtin; (refine wpList_append_int_at rfl (.tmp 98) (.tmp 105) _ rfl 3 i0 Try.underlying30 hi0 jz0 jz1 jz2 w.heap.size A2 cc m (stN L c T S s (q - s)) rfl HM.out (HO5.out.alloc _) u5.heap.size (W + mv) rfl (by simp) (by omega) (by simp; omega) ?_); intro A' c' w' hol' hb' hg' hat'; go_loud (have HG6 := hide ((HG5.out.below (bl_alloc (bl_refl _) _)).kept hg' (fun e => HNE.out _ e rfl)); have HO6 := hide hol'; have hb6 := ((bl_alloc (bl_refl u5) _).mono (show w.heap.size ≤ u5.heap.size by omega)).trans hb'; have HB6 := hide (HB5.out.trans hb6); have z6 := Nat.le_trans z5 hb6.size; have HN6 := hide (fun k' (e : (Value.slice A' (m + 1) c').ownBlock = some k') (e' : k' = u1.heap.size) => (by (rcases hat' with r | r); (next => exact HNE.out k' (r ▸ e) e'); (next => (rw [r] at e; have e := Option.some.inj e; simp at e; omega)) : False)); clear hol' hb' hg' hat' hb6)))
        go_ret
        exact ⟨A', c', by rw [HFF.out, List.length_append, ← HM.out]; rfl, by rw [HFF.out]; exact HO6.out, HB6.out⟩
end Go.Proofs.Ytmncdpiojhgcdaa
