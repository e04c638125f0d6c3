/- Several texts of one claim, one behind the other. -/
import Derived.Test.YtmncdpiojhgcdaaHas
import Derived.Test.YtmncdpiojhgcdaaSb
import Derived.Test.YtmncdpiojhgcdaaSd
import Derived.Test.YtmncdpiojhgcdaaSc
import Derived.Test.YtmncdpiojhgcdaaSa
/- A measured paragraph that a function keeps in a variable; the breaks of a paragraph in the program. -/
namespace Go.Proofs.Ytmncdpiojhgcdaa
open Go.ChangeShapes Go.WideShapes Go.ChangeAt Go.RowKit
set_option linter.unusedVariables false

/-- A measured paragraph lies in the variable at block gp. -/
structure PS (u : World) (B gp g c1 gs gf gb : Nat) (L : List It) : Prop where
  k0 : u.cell? ⟨gp, 0, none⟩ = some (.slice (some ⟨g, 0, none⟩) L.length c1)
  k1 : u.cell? ⟨gp, 1, none⟩ = some (.slice (some ⟨gs, 0, none⟩) (L.length + 1) (L.length + 1))
  k2 : u.cell? ⟨gp, 2, none⟩ = some (.slice (some ⟨gf, 0, none⟩) (L.length + 1) (L.length + 1))
  k3 : u.cell? ⟨gp, 3, none⟩ = some (.slice (some ⟨gb, 0, none⟩) (L.length + 1) (L.length + 1))
  row : u.ownsRow B 105 1 (.slice (some ⟨g, 0, none⟩) L.length c1) L.length (L.map part)
  pr : PR u B gs gf gb (SL L L.length) (FL L L.length) (XL L L.length) (L.length + 1)
theorem PS.below {u u' : World} {B gp g c1 gs gf gb : Nat} {L : List It} (h : PS u B gp g c1 gs gf gb L) (hb : Below u.heap.size u u') : PS u' B gp g c1 gs gf gb L :=
  ⟨keep_cell hb h.k0, keep_cell hb h.k1, keep_cell hb h.k2, keep_cell hb h.k3, own_below h.row hb, pr_below h.pr hb⟩
theorem PS.drew {u : World} {B gp g c1 gs gf gb : Nat} {L : List It} (h : PS u B gp g c1 gs gf gb L) : PS u.drew B gp g c1 gs gf gb L := h.below (bl_drew (bl_refl u))
/-- The variable is made, and what was measured is laid into it. -/
theorem ps_made {u : World} {B g c1 gs gf gb : Nat} {L : List It} (hr : u.ownsRow B 105 1 (.slice (some ⟨g, 0, none⟩) L.length c1) L.length (L.map part)) (hp : PR u B gs gf gb (SL L L.length) (FL L L.length) (XL L L.length) (L.length + 1)) :
    PS (u.alloc (.cells #[.slice (some ⟨g, 0, none⟩) L.length c1, .slice (some ⟨gs, 0, none⟩) (L.length + 1) (L.length + 1), .slice (some ⟨gf, 0, none⟩) (L.length + 1) (L.length + 1), .slice (some ⟨gb, 0, none⟩) (L.length + 1) (L.length + 1)] 82)) B u.heap.size g c1 gs gf gb L := by
  have ba := bl_alloc (bl_refl u) (.cells #[.slice (some ⟨g, 0, none⟩) L.length c1, .slice (some ⟨gs, 0, none⟩) (L.length + 1) (L.length + 1), .slice (some ⟨gf, 0, none⟩) (L.length + 1) (L.length + 1), .slice (some ⟨gb, 0, none⟩) (L.length + 1) (L.length + 1)] 82)
  exact ⟨by simp [go_sem], by simp [go_sem], by simp [go_sem], by simp [go_sem], own_below hr ba, pr_below hp ba⟩

set_option maxRecDepth 8000 in
set_option maxHeartbeats 4000000 in
theorem BreaksOf_i (w : World) (A : Option Addr) (n c : Nat) (L : List It) (h : TL w A n L) (hn : n ≤ 1048576) :
    Calls Try.prog 29 #[.slice A n c] w (RetL w (brO L)) := by
  have ME := hide (measure_i w A n c L h (by omega))
  obtain rfl : n = L.length := h.1
  clear h
  obtain ⟨i0, hi0, jz0, jz1, jz2⟩ := info_parts int_info
  cases hok : isOk L
  · have E := hide (brO_no hok)
    rw [hok] at ME
    clear hok
    go_enter Try.func29, Try.ntmps29
    go_wp2_with fail
    (with_reducible refine ME.out.mono ?_)
    rintro e u1 ⟨v, rfl, _, hv, hb⟩
    obtain rfl := hv (by trivial)
    have HB1 := hide hb
    clear hv hb
    go_wp2
    go_ret
    exact ⟨none, 0, by rw [E.out]; rfl, by rw [E.out]; exact OL.nil _ _ _, bl_alloc HB1.out _⟩
  · have E := hide (brO_yes hok)
    have HK := isOk_iff.1 hok
    have HALL := hide HK.1
    have hl60 := HK.2.1
    have hl1 := HK.2.2.1
    rw [hok] at ME
    clear hok HK
    go_enter Try.func29, Try.ntmps29
    go_wp2_with fail
    (with_reducible refine ME.out.mono ?_)
    rintro e u1 ⟨v, rfl, hv, _, hb⟩
    obtain ⟨g, c1, gs, gf, gb, rfl, hrow, hpr⟩ := hv (by trivial)
    have HPS := hide (ps_made hrow hpr)
    have HB1 := hide (bl_alloc hb (.cells #[.slice (some ⟨g, 0, none⟩) L.length c1, .slice (some ⟨gs, 0, none⟩) (L.length + 1) (L.length + 1), .slice (some ⟨gf, 0, none⟩) (L.length + 1) (L.length + 1), .slice (some ⟨gb, 0, none⟩) (L.length + 1) (L.length + 1)] 82))
    have HU1 := hide hb.size
    clear hv hrow hpr hb
    go_wp2
    go_loopw [5, 17] (fun t i u => ∃ (u2 : World) (k : Nat) (A2 : Option Addr) (m cc : Nat), k ≤ L.length ∧ t = .slice A2 m cc ∧ i = .int .i64 k ∧ m = (brTo L k).length ∧ PS u2 w.heap.size u1.heap.size g c1 gs gf gb L ∧ Below w.heap.size w u2 ∧ OL u 3 u2.heap.size A2 cc (brTo L k) ∧ Below u2.heap.size u2 u) (fun _ i _ => L.length - (intOf i).toNat)
    case atStart => exact ⟨_, 0, none, 0, 0, by omega, rfl, rfl, rfl, HPS.out, HB1.out, OL.nil _ _ _, bl_refl _⟩
    case round =>
      obtain ⟨u2, k, A2, m, cc, hk, rfl, rfl, hm, hps, hb2, hol, hbl⟩ := hrel
      have hmk : m ≤ k := by rw [hm]; exact brTo_len L k
      have HM := hide hm
      have HB2 := hide hb2
      have HBL := hide hbl
      have hzr := hbl.size
      have HP2 := hide hps
      have HPW := hide (hps.below hbl)
      clear hm hb2 hps hbl
      by_cases hlt : k < L.length
      · have d0 := HPW.out.k0
        have d1 := HPW.out.k1
        have d2 := HPW.out.k2
        have d3 := HPW.out.k3
        have IB := fun (u : World) (hu : u.ownsRow w.heap.size 105 1 (.slice (some ⟨g, 0, none⟩) L.length c1) L.length (L.map part)) (x1 x2 x3 : Value) => mayEndAt_i u x1 x2 x3 L HALL.out hl60.2 hu hlt
        obtain ⟨fb, hfb⟩ : ∃ fb, fb = mayE L k := ⟨_, rfl⟩
        rw [← hfb] at IB
        have HIB := hide IB
        have ST := hide (show brTo L (k + 1) = if fb then brTo L k ++ [(k : Int)] else brTo L k by rw [hfb]; rfl)
        clear IB hfb
        go_wp2_with fail
        (with_reducible refine (HIB.out _ HPW.out.row _ _ _).mono ?_)
        rintro e u4 ⟨rfl, hb⟩
        have hol := hol.below hb
        have hzr := Nat.le_trans hzr hb.size
        have HB4 := hide (bl_call hb HBL.out)
        clear hb d0 d1 d2 d3
        cases fb
        · have M := hide (show brTo L (k + 1) = brTo L k by rw [ST.out]; rfl)
          go_wp2
          go_roundw
          case rel => exact ⟨u2, k + 1, A2, m, cc, by omega, rfl, by go_num, by rw [M.out]; exact HM.out, HP2.out, HB2.out, by rw [M.out]; exact hol, HB4.out⟩
          case measure => simp [intOf]; omega
        · have M := hide (show brTo L (k + 1) = brTo L k ++ [(k : Int)] by rw [ST.out]; rfl)
          go_wp2_with (at_builtin; refine wpList_append_int rfl (.tmp 23) (.tmp 25) _ rfl 3 i0 Try.underlying30 hi0 jz0 jz1 jz2 (u2.heap.size) A2 cc m (brTo L k) rfl (HM.out) (hol.alloc _) u4.heap.size (k : Int) rfl (by simp) (by omega) (by simp; omega) ?_; intro A' c' w' hol' hb' hg')
          go_roundw
          case rel => exact ⟨u2, k + 1, A', m + 1, c', by omega, rfl, by go_num, by rw [M.out, List.length_append, ← HM.out]; rfl, HP2.out, HB2.out, by rw [M.out]; exact hol', (bl_alloc HB4.out _).trans hb'⟩
          case measure => simp [intOf]; omega
      · have HE := hide (show k = L.length by omega)
        go_wp2
        go_ret
        refine ⟨A2, cc, by rw [E.out, HM.out, HE.out]; rfl, ?_, bl_call HBL.out HB2.out⟩
        rw [E.out, ← HE.out]
        exact World.ownsRow.mono hol HB2.out.size
end Go.Proofs.Ytmncdpiojhgcdaa

/- Where a line starts and its length, in the program. -/
namespace Go.Proofs.Ytmncdpiojhgcdaa
open Go.ChangeShapes Go.WideShapes Go.ChangeAt Go.RowKit
set_option linter.unusedVariables false
set_option linter.unusedSimpArgs false

set_option maxRecDepth 8000 in
set_option maxHeartbeats 2000000 in
theorem start_i (w : World) {B gb N c3 : Nat} (v0 v1 v2 : Value) (L : List It) (hl : L.length ≤ 60) (hN : N = L.length + 1) (hrow : w.ownsRow B 3 1 (.slice (some ⟨gb, 0, none⟩) N c3) N ((XL L L.length).map (Value.int .i64))) (a : Int) (p q : Nat) (hp : a + 1 = (p : Int)) (hpl : p ≤ L.length) (hq : q ≤ L.length) :
    Calls Try.prog 139 #[.agg #[v0, v1, v2, .slice (some ⟨gb, 0, none⟩) N c3], .int .i64 a, .int .i64 q] w fun e w' => e = .returned (.int .i64 ((min (fBx L p) q : Nat) : Int)) ∧ Below w.heap.size w w' := by
  have k3 : (w.alloc (.cells #[v0, v1, v2, .slice (some ⟨gb, 0, none⟩) N c3] 82)).cell? ⟨w.heap.size, 3, none⟩ = some (.slice (some ⟨gb, 0, none⟩) N c3) := by simp [go_sem]
  have f0 := int_at hrow (by rw [XL_len, hN]) (j := p) (by omega)
  rw [XL_get (by omega), if_pos (by omega)] at f0
  have f1 : (w.alloc (.cells #[v0, v1, v2, .slice (some ⟨gb, 0, none⟩) N c3] 82)).cell? ⟨gb, p, none⟩ = _ := keep_alloc f0 _
  rw [show nxB L (L.length - p) = fBx L p from rfl] at f1
  obtain ⟨x, hx⟩ : ∃ x, x = fBx L p := ⟨_, rfl⟩
  rw [← hx] at f1 ⊢
  have wp : IntKind.i64.wrap (a + 1) = (p : Int) := by rw [hp]; exact IntWalk.i64_in _ (by omega)
  have hp0 : (0 : Int) ≤ (p : Int) := by omega
  have hp1 : (p : Int) < (N : Int) := by omega
  clear f0 hrow hx hp hN
  rcases (by omega : (x ≤ q ∧ min x q = x) ∨ (q < x ∧ min x q = q)) with ⟨h1, h2⟩ | ⟨h1, h2⟩
  all_goals
    rw [h2]
    clear h2
    have h3 : (x : Int) ≤ (q : Int) ∨ (q : Int) < (x : Int) := by omega
    have h4 := hide h3
    clear h3
    go_enter Try.func139, Try.ntmps139
    go_wp2
    go_ret
    exact ⟨rfl, bl_alloc (bl_refl _) _⟩
theorem box_atEnd (a : Int) (w : World) : Calls Try.prog 176 #[bpv a] w fun e w' => e = .returned (gv 0 0 0) ∧ Below w.heap.size w w' := by
  go_enter Try.func176, Try.ntmps176
  go_wp2
  refine bodyPost_ret (v := gv 0 0 0) (by simp [results, Try.results176, go_sem, *]) rfl ⟨rfl, ?_⟩
  repeat' (first | with_reducible exact bl_refl _ | with_reducible assumption | with_reducible refine bl_alloc ?_ _ | with_reducible refine bl_set ?_ ?_ _ | with_reducible refine bl_drewN ?_ _ | with_reducible refine bl_drew ?_ | with_reducible refine bl_call (by assumption) ?_)
  all_goals (first | omega | (simp; done) | (simp; omega))
theorem glue_atEnd (a b c : Int) (w : World) : Calls Try.prog 182 #[gpv a b c] w fun e w' => e = .returned (gv 0 0 0) ∧ Below w.heap.size w w' := by
  go_enter Try.func182, Try.ntmps182
  go_wp2
  refine bodyPost_ret (v := gv 0 0 0) (by simp [results, Try.results182, go_sem, *]) rfl ⟨rfl, ?_⟩
  repeat' (first | with_reducible exact bl_refl _ | with_reducible assumption | with_reducible refine bl_alloc ?_ _ | with_reducible refine bl_set ?_ ?_ _ | with_reducible refine bl_drewN ?_ _ | with_reducible refine bl_drew ?_ | with_reducible refine bl_call (by assumption) ?_)
  all_goals (first | omega | (simp; done) | (simp; omega))
theorem pen_atEnd (a p : Int) (f : Bool) (w : World) : Calls Try.prog 170 #[ppv a p f] w fun e w' => e = .returned (gv a 0 0) ∧ Below w.heap.size w w' := by
  go_enter Try.func170, Try.ntmps170
  go_wp2
  refine bodyPost_ret (v := gv a 0 0) (by simp [results, Try.results170, go_sem, *]) rfl ⟨rfl, ?_⟩
  repeat' (first | with_reducible exact bl_refl _ | with_reducible assumption | with_reducible refine bl_alloc ?_ _ | with_reducible refine bl_set ?_ ?_ _ | with_reducible refine bl_drewN ?_ _ | with_reducible refine bl_drew ?_ | with_reducible refine bl_call (by assumption) ?_)
  all_goals (first | omega | (simp; done) | (simp; omega))
theorem part_kind3 (x : It) (hx : KOk x) : ∃ T y, part x = .iface T y ∧ ((T = 166 ∧ (∃ a, y = bpv a) ∧ atW x = 0) ∨ (T = 171 ∧ (∃ a b c, y = gpv a b c) ∧ atW x = 0) ∨ (T = 134 ∧ ∃ a p f, y = ppv a p f ∧ atW x = a)) := by
  obtain ⟨k, b, c, d, e, f⟩ := x
  rcases hx with h | h | h
  · simp only at h
    subst h
    exact ⟨166, bpv b, by simp [part], .inl ⟨rfl, ⟨_, rfl⟩, by simp [atW]⟩⟩
  · simp only at h
    subst h
    exact ⟨171, gpv b c d, by simp [part], .inr (.inl ⟨rfl, ⟨_, _, _, rfl⟩, by simp [atW]⟩)⟩
  · simp only at h
    subst h
    exact ⟨134, ppv b e f, by simp [part], .inr (.inr ⟨rfl, _, _, _, rfl, by simp [atW]⟩)⟩
theorem keep_far3 {w : World} {r : Nat} {p : Addr} {v x y z : Value} (h : w.cell? p = some v) (hne : p.block ≠ r) : (((w.setCell ⟨r, 0, none⟩ x).setCell ⟨r, 1, none⟩ y).setCell ⟨r, 2, none⟩ z).cell? p = some v := by
  rw [World.cell?_setCell_far _ _ _ _ (fun e => hne e.symm), World.cell?_setCell_far _ _ _ _ (fun e => hne e.symm), World.cell?_setCell_far _ _ _ _ (fun e => hne e.symm)]
  exact h
set_option maxRecDepth 8000 in
set_option maxHeartbeats 4000000 in
theorem lineGlue_i (w : World) {B g c1 gs gb N : Nat} (v2 : Value) (L : List It) (hall : ∀ i, i < L.length → itOk (tg L i) = true) (hl : L.length ≤ 60) (hN : N = L.length + 1) (hrow : w.ownsRow B 105 1 (.slice (some ⟨g, 0, none⟩) L.length c1) L.length (L.map part)) (hsu : w.ownsRow B 43 3 (.slice (some ⟨gs, 0, none⟩) N N) N ((SL L L.length).flatMap Rec.cells)) (hbo : w.ownsRow B 3 1 (.slice (some ⟨gb, 0, none⟩) N N) N ((XL L L.length).map (Value.int .i64))) (a : Int) (p q : Nat) (hp : a + 1 = (p : Int)) (hpl : p ≤ L.length) (hq : q < L.length) :
    Calls Try.prog 101 #[.agg #[.slice (some ⟨g, 0, none⟩) L.length c1, .slice (some ⟨gs, 0, none⟩) N N, v2, .slice (some ⟨gb, 0, none⟩) N N], .int .i64 a, .int .i64 q] w fun e w' => e = .returned (gv (sW L q - sW L (min (fBx L p) q) + atW (tg L q)) (sT L q - sT L (min (fBx L p) q)) (sS L q - sS L (min (fBx L p) q))) ∧ Below w.heap.size w w' := by
  have hmb : ∀ (v : Value) (W : World), (method 292 166 v "loop.example/typesetting/impl.atEnd").run Try.prog W = .ok (176, v) W := fun _ _ => by kernel_rfl
  have hmg : ∀ (v : Value) (W : World), (method 292 171 v "loop.example/typesetting/impl.atEnd").run Try.prog W = .ok (182, v) W := fun _ _ => by kernel_rfl
  have hmp : ∀ (v : Value) (W : World), (method 292 134 v "loop.example/typesetting/impl.atEnd").run Try.prog W = .ok (170, v) W := fun _ _ => by kernel_rfl
  have HST := hide (fun (u : World) (hb : Below w.heap.size w u) (x0 x1 x2 : Value) => start_i u x0 x1 x2 L hl hN (own_below hbo hb) a p q hp hpl (by omega))
  have bq := s_bd hall (k := q) (by omega)
  have hsl : min (fBx L p) q ≤ q := Nat.min_le_right _ _
  have bs := s_bd hall (k := min (fBx L p) q) (by omega)
  have C := fun (j i : Nat) (hj : j < N) (hi : i < 3) => row3_at hsu (by rw [SL_len, hN]) hj hi
  have G := fun (j : Nat) (hj : j ≤ L.length) => show tg (SL L L.length) j = gl3 L j by
    have := SL_get (L := L) (k := L.length) hj
    rw [if_pos hj] at this
    unfold tg List.getD
    rw [this]; rfl
  have a0 : w.cell? ⟨gs, q * 3, none⟩ = some (.int .i64 (sW L q)) := by have := C q 0 (by omega) (by omega); rw [G q (by omega)] at this; exact this
  have a1 : w.cell? ⟨gs, q * 3 + 1, none⟩ = some (.int .i64 (sT L q)) := by have := C q 1 (by omega) (by omega); rw [G q (by omega)] at this; exact this
  have a2 : w.cell? ⟨gs, q * 3 + 2, none⟩ = some (.int .i64 (sS L q)) := by have := C q 2 (by omega) (by omega); rw [G q (by omega)] at this; exact this
  obtain ⟨s, hs⟩ : ∃ s, s = min (fBx L p) q := ⟨_, rfl⟩
  rw [← hs] at hsl bs HST ⊢
  have b0 : w.cell? ⟨gs, s * 3, none⟩ = some (.int .i64 (sW L s)) := by have := C s 0 (by omega) (by omega); rw [G s (by omega)] at this; exact this
  have b1 : w.cell? ⟨gs, s * 3 + 1, none⟩ = some (.int .i64 (sT L s)) := by have := C s 1 (by omega) (by omega); rw [G s (by omega)] at this; exact this
  have b2 : w.cell? ⟨gs, s * 3 + 2, none⟩ = some (.int .i64 (sS L s)) := by have := C s 2 (by omega) (by omega); rw [G s (by omega)] at this; exact this
  have e0 := World.ownsRow.cellAt hrow q (by omega)
  obtain ⟨pT, py, hpart, hkind⟩ := part_kind3 (tg L q) (KOk.of (hall q hq))
  have ab : 0 ≤ atW (tg L q) ∧ atW (tg L q) ≤ 1000 := by
    rcases iok_iff.1 (hall q hq) with h | h | h <;> (unfold atW; split <;> omega)
  rw [List.getElem?_map, tg_get hq, Option.map_some, hpart] at e0
  obtain ⟨x0, hx0⟩ : ∃ x, x = sW L q := ⟨_, rfl⟩
  obtain ⟨x1, hx1⟩ : ∃ x, x = sT L q := ⟨_, rfl⟩
  obtain ⟨x2, hx2⟩ : ∃ x, x = sS L q := ⟨_, rfl⟩
  obtain ⟨y0, hy0⟩ : ∃ x, x = sW L s := ⟨_, rfl⟩
  obtain ⟨y1, hy1⟩ : ∃ x, x = sT L s := ⟨_, rfl⟩
  obtain ⟨y2, hy2⟩ : ∃ x, x = sS L s := ⟨_, rfl⟩
  obtain ⟨z, hz⟩ : ∃ x, x = atW (tg L q) := ⟨_, rfl⟩
  rw [← hx0, ← hy0, ← hx1, ← hy1, ← hx2, ← hy2, ← hz]
  rw [← hx0, ← hx1, ← hx2] at bq
  rw [← hy0, ← hy1, ← hy2] at bs
  rw [← hx0] at a0
  rw [← hx1] at a1
  rw [← hx2] at a2
  rw [← hy0] at b0
  rw [← hy1] at b1
  rw [← hy2] at b2
  rw [← hz] at hkind ab
  have HK := hide hkind
  obtain ⟨⟨_, _⟩, ⟨_, _⟩, ⟨_, _⟩⟩ := bq
  obtain ⟨⟨_, _⟩, ⟨_, _⟩, ⟨_, _⟩⟩ := bs
  have k0 : ((w.alloc (.cells #[.slice (some ⟨g, 0, none⟩) L.length c1, .slice (some ⟨gs, 0, none⟩) N N, v2, .slice (some ⟨gb, 0, none⟩) N N] 82)).alloc (.cells #[.int .i64 0, .int .i64 0, .int .i64 0] 43)).cell? ⟨w.heap.size, 0, none⟩ = some (.slice (some ⟨g, 0, none⟩) L.length c1) := by simp [go_sem]
  have k1 : ((w.alloc (.cells #[.slice (some ⟨g, 0, none⟩) L.length c1, .slice (some ⟨gs, 0, none⟩) N N, v2, .slice (some ⟨gb, 0, none⟩) N N] 82)).alloc (.cells #[.int .i64 0, .int .i64 0, .int .i64 0] 43)).cell? ⟨w.heap.size, 1, none⟩ = some (.slice (some ⟨gs, 0, none⟩) N N) := by simp [go_sem]
  have k2 : ((w.alloc (.cells #[.slice (some ⟨g, 0, none⟩) L.length c1, .slice (some ⟨gs, 0, none⟩) N N, v2, .slice (some ⟨gb, 0, none⟩) N N] 82)).alloc (.cells #[.int .i64 0, .int .i64 0, .int .i64 0] 43)).cell? ⟨w.heap.size, 2, none⟩ = some v2 := by simp [go_sem]
  have k3 : ((w.alloc (.cells #[.slice (some ⟨g, 0, none⟩) L.length c1, .slice (some ⟨gs, 0, none⟩) N N, v2, .slice (some ⟨gb, 0, none⟩) N N] 82)).alloc (.cells #[.int .i64 0, .int .i64 0, .int .i64 0] 43)).cell? ⟨w.heap.size, 3, none⟩ = some (.slice (some ⟨gb, 0, none⟩) N N) := by simp [go_sem]
  have a0 : ((w.alloc (.cells #[.slice (some ⟨g, 0, none⟩) L.length c1, .slice (some ⟨gs, 0, none⟩) N N, v2, .slice (some ⟨gb, 0, none⟩) N N] 82)).alloc (.cells #[.int .i64 0, .int .i64 0, .int .i64 0] 43)).cell? ⟨gs, q * 3, none⟩ = _ := keep_alloc (keep_alloc a0 _) _
  have a1 : ((w.alloc (.cells #[.slice (some ⟨g, 0, none⟩) L.length c1, .slice (some ⟨gs, 0, none⟩) N N, v2, .slice (some ⟨gb, 0, none⟩) N N] 82)).alloc (.cells #[.int .i64 0, .int .i64 0, .int .i64 0] 43)).cell? ⟨gs, q * 3 + 1, none⟩ = _ := keep_alloc (keep_alloc a1 _) _
  have a2 : ((w.alloc (.cells #[.slice (some ⟨g, 0, none⟩) L.length c1, .slice (some ⟨gs, 0, none⟩) N N, v2, .slice (some ⟨gb, 0, none⟩) N N] 82)).alloc (.cells #[.int .i64 0, .int .i64 0, .int .i64 0] 43)).cell? ⟨gs, q * 3 + 2, none⟩ = _ := keep_alloc (keep_alloc a2 _) _
  have b0 : ((w.alloc (.cells #[.slice (some ⟨g, 0, none⟩) L.length c1, .slice (some ⟨gs, 0, none⟩) N N, v2, .slice (some ⟨gb, 0, none⟩) N N] 82)).alloc (.cells #[.int .i64 0, .int .i64 0, .int .i64 0] 43)).cell? ⟨gs, s * 3, none⟩ = _ := keep_alloc (keep_alloc b0 _) _
  have b1 : ((w.alloc (.cells #[.slice (some ⟨g, 0, none⟩) L.length c1, .slice (some ⟨gs, 0, none⟩) N N, v2, .slice (some ⟨gb, 0, none⟩) N N] 82)).alloc (.cells #[.int .i64 0, .int .i64 0, .int .i64 0] 43)).cell? ⟨gs, s * 3 + 1, none⟩ = _ := keep_alloc (keep_alloc b1 _) _
  have b2 : ((w.alloc (.cells #[.slice (some ⟨g, 0, none⟩) L.length c1, .slice (some ⟨gs, 0, none⟩) N N, v2, .slice (some ⟨gb, 0, none⟩) N N] 82)).alloc (.cells #[.int .i64 0, .int .i64 0, .int .i64 0] 43)).cell? ⟨gs, s * 3 + 2, none⟩ = _ := keep_alloc (keep_alloc b2 _) _
  have e0 : ((w.alloc (.cells #[.slice (some ⟨g, 0, none⟩) L.length c1, .slice (some ⟨gs, 0, none⟩) N N, v2, .slice (some ⟨gb, 0, none⟩) N N] 82)).alloc (.cells #[.int .i64 0, .int .i64 0, .int .i64 0] 43)).cell? ⟨g, q, none⟩ = _ := keep_alloc (keep_alloc e0 _) _
  have r0 : ((w.alloc (.cells #[.slice (some ⟨g, 0, none⟩) L.length c1, .slice (some ⟨gs, 0, none⟩) N N, v2, .slice (some ⟨gb, 0, none⟩) N N] 82)).alloc (.cells #[.int .i64 0, .int .i64 0, .int .i64 0] 43)).cell? ⟨w.heap.size + 1, 0, none⟩ = some (.int .i64 0) := by simp [go_sem]
  have r1 : ((w.alloc (.cells #[.slice (some ⟨g, 0, none⟩) L.length c1, .slice (some ⟨gs, 0, none⟩) N N, v2, .slice (some ⟨gb, 0, none⟩) N N] 82)).alloc (.cells #[.int .i64 0, .int .i64 0, .int .i64 0] 43)).cell? ⟨w.heap.size + 1, 1, none⟩ = some (.int .i64 0) := by simp [go_sem]
  have r2 : ((w.alloc (.cells #[.slice (some ⟨g, 0, none⟩) L.length c1, .slice (some ⟨gs, 0, none⟩) N N, v2, .slice (some ⟨gb, 0, none⟩) N N] 82)).alloc (.cells #[.int .i64 0, .int .i64 0, .int .i64 0] 43)).cell? ⟨w.heap.size + 1, 2, none⟩ = some (.int .i64 0) := by simp [go_sem]
  have f0 : ((w.alloc (.cells #[.slice (some ⟨g, 0, none⟩) L.length c1, .slice (some ⟨gs, 0, none⟩) N N, v2, .slice (some ⟨gb, 0, none⟩) N N] 82)).alloc (.cells #[.int .i64 0, .int .i64 0, .int .i64 0] 43)).frozen? ⟨w.heap.size + 1, 0, none⟩ = false := by simp [go_sem]
  have f1 : ((w.alloc (.cells #[.slice (some ⟨g, 0, none⟩) L.length c1, .slice (some ⟨gs, 0, none⟩) N N, v2, .slice (some ⟨gb, 0, none⟩) N N] 82)).alloc (.cells #[.int .i64 0, .int .i64 0, .int .i64 0] 43)).frozen? ⟨w.heap.size + 1, 1, none⟩ = false := by simp [go_sem]
  have f2 : ((w.alloc (.cells #[.slice (some ⟨g, 0, none⟩) L.length c1, .slice (some ⟨gs, 0, none⟩) N N, v2, .slice (some ⟨gb, 0, none⟩) N N] 82)).alloc (.cells #[.int .i64 0, .int .i64 0, .int .i64 0] 43)).frozen? ⟨w.heap.size + 1, 2, none⟩ = false := by simp [go_sem]
  have hz2 : ((w.alloc (.cells #[.slice (some ⟨g, 0, none⟩) L.length c1, .slice (some ⟨gs, 0, none⟩) N N, v2, .slice (some ⟨gb, 0, none⟩) N N] 82)).alloc (.cells #[.int .i64 0, .int .i64 0, .int .i64 0] 43)).heap.size = w.heap.size + 2 := by simp
  have hB2 := bl_alloc (bl_alloc (bl_refl w) (.cells #[.slice (some ⟨g, 0, none⟩) L.length c1, .slice (some ⟨gs, 0, none⟩) N N, v2, .slice (some ⟨gb, 0, none⟩) N N] 82)) (.cells #[.int .i64 0, .int .i64 0, .int .i64 0] 43)
  have i1 : (q : Int) < (N : Int) := by omega
  have i2 : (s : Int) < (N : Int) := by omega
  have i3 : (q : Int) < (L.length : Int) := by omega
  have i4 : (0 : Int) ≤ (q : Int) := by omega
  have i5 : (0 : Int) ≤ (s : Int) := by omega
  have HM := hide (minus_big x0 x1 x2 y0 y1 y2)
  have hgl := (World.ownsRow.lt hrow g rfl).2
  clear hrow hsu hbo C G hs hpart hkind hx0 hx1 hx2 hy0 hy1 hy2 hz hN hp hpl hall
  go_enter Try.func101, Try.ntmps101
  go_upto_region 1 with fail
  go_cut [7] from 7 to 21 (fun t wx => ∃ r, t = .pointer (some ⟨r, 0, none⟩) ∧ w.heap.size + 2 ≤ r ∧ wx.cell? ⟨r, 0, none⟩ = some (.int .i64 (x0 - y0)) ∧ wx.cell? ⟨r, 1, none⟩ = some (.int .i64 (x1 - y1)) ∧ wx.cell? ⟨r, 2, none⟩ = some (.int .i64 (x2 - y2)) ∧ Below ((w.alloc (.cells #[.slice (some ⟨g, 0, none⟩) L.length c1, .slice (some ⟨gs, 0, none⟩) N N, v2, .slice (some ⟨gb, 0, none⟩) N N] 82)).alloc (.cells #[.int .i64 0, .int .i64 0, .int .i64 0] 43)).heap.size ((w.alloc (.cells #[.slice (some ⟨g, 0, none⟩) L.length c1, .slice (some ⟨gs, 0, none⟩) N N, v2, .slice (some ⟨gb, 0, none⟩) N N] 82)).alloc (.cells #[.int .i64 0, .int .i64 0, .int .i64 0] 43)) wx)
  case first =>
    have hB := bl_drew (bl_refl ((w.alloc (.cells #[.slice (some ⟨g, 0, none⟩) L.length c1, .slice (some ⟨gs, 0, none⟩) N N, v2, .slice (some ⟨gb, 0, none⟩) N N] 82)).alloc (.cells #[.int .i64 0, .int .i64 0, .int .i64 0] 43)))
    refine wp_region_held_drew (S := fun u : World => Below ((w.alloc (.cells #[.slice (some ⟨g, 0, none⟩) L.length c1, .slice (some ⟨gs, 0, none⟩) N N, v2, .slice (some ⟨gb, 0, none⟩) N N] 82)).alloc (.cells #[.int .i64 0, .int .i64 0, .int .i64 0] 43)).heap.size ((w.alloc (.cells #[.slice (some ⟨g, 0, none⟩) L.length c1, .slice (some ⟨gs, 0, none⟩) N N, v2, .slice (some ⟨gb, 0, none⟩) N N] 82)).alloc (.cells #[.int .i64 0, .int .i64 0, .int .i64 0] 43)) u) (by kernel_rfl) (hB) (fun hHeld => ?_)
    (first | refine tky 0 (h := ?_) | refine tkn 0 (h := ?_)); (try simp only [Act.put, tkd, tke, tkf])
    refine tkY (i := 1) (oi := ?_) (v := ?_) ?_ (by kernel_rfl) ?_ ?_ ?_ (by assumption) ?_; rotate_left 2; (next => simp only [tka, tkb, tkc]; rfl); (next => exact fun _ _ _ h => h); (next => rfl); (next => intro w_ hSw; (try dsimp only at hSw); have k1 := keep_cell hSw k1; go_simp; (try (with_reducible rfl))); (try simp only [Act.put, tkd, tke, tkf])
    (first | refine tky 2 (h := ?_) | refine tkn 2 (h := ?_)); (try simp only [Act.put, tkd, tke, tkf])
    (first | refine tky 3 (h := ?_) | refine tkn 3 (h := ?_)); (try simp only [Act.put, tkd, tke, tkf])
    refine tkY (i := 4) (oi := ?_) (v := ?_) ?_ (by kernel_rfl) ?_ ?_ ?_ (by assumption) ?_; rotate_left 2; (next => simp only [tka, tkb, tkc]; rfl); (next => exact fun _ _ _ h => h); (next => rfl); (next => intro w_ hSw; (try dsimp only at hSw); have a0 := keep_cell hSw a0; have a1 := keep_cell hSw a1; have a2 := keep_cell hSw a2; go_simp; (try (with_reducible rfl))); (try simp only [Act.put, tkd, tke, tkf])
    (first | refine tky 5 (h := ?_) | refine tkn 5 (h := ?_)); (try simp only [Act.put, tkd, tke, tkf])
    refine tkY (i := 6) (oi := ?_) (v := ?_) ?_ (by kernel_rfl) ?_ ?_ ?_ (by assumption) ?_; rotate_left 2; (next => simp only [tka, tkb, tkc]; rfl); (next => exact fun _ _ _ h => h); (next => rfl); (next => intro w_ hSw; (try dsimp only at hSw); have k1 := keep_cell hSw k1; go_simp; (try (with_reducible rfl))); (try simp only [Act.put, tkd, tke, tkf])
    refine tkY (i := 7) (oi := ?_) (v := ?_) ?_ (by kernel_rfl) ?_ ?_ ?_ (by assumption) ?_; rotate_left 2; (next => simp only [tka, tkb, tkc]; rfl); (next => exact fun _ _ _ h => h); (next => rfl); (next => intro w_ hSw; (try dsimp only at hSw); have k0 := keep_cell hSw k0; have k1 := keep_cell hSw k1; have k2 := keep_cell hSw k2; have k3 := keep_cell hSw k3; go_simp; (try (with_reducible rfl))); (try simp only [Act.put, tkd, tke, tkf])
    (first | refine tky 8 (h := ?_) | refine tkn 8 (h := ?_)); (try simp only [Act.put, tkd, tke, tkf])
    (first | refine tky 9 (h := ?_) | refine tkn 9 (h := ?_)); (try simp only [Act.put, tkd, tke, tkf])
    refine wpAnyH_ready (rs := [10, 14]) (by kernel_rfl) (by simp) ?_; refine AllReadyH.cons (o := ?_) ?_ (fun K hK => ?_) ?_; rotate_left 1; (next => simp only [List.getElem?_toArray, List.getElem?_cons_succ, List.getElem?_cons_zero]; rfl)
    · go_simp
      (go_at_call 139; (with_reducible refine (HST.out _ (bl_call (by repeat' (first | with_reducible assumption | with_reducible refine bl_alloc ?_ _ | with_reducible refine bl_drew ?_)) hB2) _ _ _).mono ?_); rintro e u1 ⟨rfl, hb⟩; (have hB : Below ((w.alloc (.cells #[.slice (some ⟨g, 0, none⟩) L.length c1, .slice (some ⟨gs, 0, none⟩) N N, v2, .slice (some ⟨gb, 0, none⟩) N N] 82)).alloc (.cells #[.int .i64 0, .int .i64 0, .int .i64 0] 43)).heap.size ((w.alloc (.cells #[.slice (some ⟨g, 0, none⟩) L.length c1, .slice (some ⟨gs, 0, none⟩) N N, v2, .slice (some ⟨gb, 0, none⟩) N N] 82)).alloc (.cells #[.int .i64 0, .int .i64 0, .int .i64 0] 43)) u1 := bl_call hb (by repeat' (first | with_reducible assumption | with_reducible refine bl_alloc ?_ _ | with_reducible refine bl_drew ?_))))
      (try go_wp2_with fail); refine hK.out _ _ (hB) (fun hHeld => ?_); clear hK K; (try simp only [Act.put, List.setIfInBounds_toArray, List.set_cons_zero, List.set_cons_succ])
      (first | refine tky 11 (h := ?_) | refine tkn 11 (h := ?_)); (try simp only [Act.put, tkd, tke, tkf])
      refine tkY (i := 12) (oi := ?_) (v := ?_) ?_ (by kernel_rfl) ?_ ?_ ?_ (by assumption) ?_; rotate_left 2; (next => simp only [tka, tkb, tkc]; rfl); (next => exact fun _ _ _ h => h); (next => rfl); (next => intro w_ hSw; (try dsimp only at hSw); have b0 := keep_cell hSw b0; have b1 := keep_cell hSw b1; have b2 := keep_cell hSw b2; go_simp; (try (with_reducible rfl))); (try simp only [Act.put, tkd, tke, tkf])
      refine wpAnyH_ready (rs := [13, 14]) (by kernel_rfl) (by simp) ?_; refine AllReadyH.cons (o := ?_) ?_ (fun K hK => ?_) ?_; rotate_left 1; (next => simp only [List.getElem?_toArray, List.getElem?_cons_succ, List.getElem?_cons_zero]; rfl)
      · go_simp
        (go_at_call 142; (with_reducible refine (HM.out _ (by omega) (by omega) (by omega) (by omega) (by omega) (by omega)).mono ?_); rintro e u2 ⟨rfl, hb⟩; (have hB : Below ((w.alloc (.cells #[.slice (some ⟨g, 0, none⟩) L.length c1, .slice (some ⟨gs, 0, none⟩) N N, v2, .slice (some ⟨gb, 0, none⟩) N N] 82)).alloc (.cells #[.int .i64 0, .int .i64 0, .int .i64 0] 43)).heap.size ((w.alloc (.cells #[.slice (some ⟨g, 0, none⟩) L.length c1, .slice (some ⟨gs, 0, none⟩) N N, v2, .slice (some ⟨gb, 0, none⟩) N N] 82)).alloc (.cells #[.int .i64 0, .int .i64 0, .int .i64 0] 43)) u2 := bl_call hb (by repeat' (first | with_reducible assumption | with_reducible refine bl_alloc ?_ _ | with_reducible refine bl_drew ?_))))
        have hz := hB.size
        rw [hz2] at hz
        (try go_wp2_with fail); refine hK.out _ _ (hB) (fun hHeld => ?_); clear hK K; (try simp only [Act.put, List.setIfInBounds_toArray, List.set_cons_zero, List.set_cons_succ])
        refine wpAnyH_ready (rs := [14]) (by kernel_rfl) (by simp) ?_; refine AllReadyH.cons (o := ?_) ?_ (fun K hK => ?_) AllReadyH.nil; rotate_left 1; (next => simp only [List.getElem?_toArray, List.getElem?_cons_succ, List.getElem?_cons_zero]; rfl); go_simp
        (try go_wp2_with fail); refine hK.out _ _ (bl_alloc hB _) (fun hHeld => ?_); clear hK K; (try simp only [Act.put, List.setIfInBounds_toArray, List.set_cons_zero, List.set_cons_succ])
        refine wpAnyH_ready (rs := [15]) (by kernel_rfl) (by simp) ?_; refine AllReadyH.cons (o := ?_) ?_ (fun K hK => ?_) AllReadyH.nil; rotate_left 1; (next => simp only [List.getElem?_toArray, List.getElem?_cons_succ, List.getElem?_cons_zero]; rfl); go_simp
        (try go_wp2_with fail); refine hK.out _ _ (bl_alloc hB _) (fun hHeld => ?_); clear hK K; (try simp only [Act.put, List.setIfInBounds_toArray, List.set_cons_zero, List.set_cons_succ])
        refine wpAnyH_done (by kernel_rfl) ?_ _
        (go_wp2_with fail; go_meet)
        exact ⟨_, rfl, hz, by simp [go_sem], by simp [go_sem], by simp [go_sem], bl_alloc hB _⟩
      · refine AllReadyH.cons (o := ?_) ?_ (fun K hK => ?_) AllReadyH.nil; rotate_left 1; (next => simp only [List.getElem?_toArray, List.getElem?_cons_succ, List.getElem?_cons_zero]; rfl)
        go_simp
        have hz := hB.size
        rw [hz2] at hz
        have hB := bl_alloc hB (.cells #[.int .i64 0, .int .i64 0, .int .i64 0] 43)
        (try go_wp2_with fail); refine hK.out _ _ (hB) (fun hHeld => ?_); clear hK K; (try simp only [Act.put, List.setIfInBounds_toArray, List.set_cons_zero, List.set_cons_succ])
        have zl : u1.heap.size < (u1.alloc (.cells #[.int .i64 0, .int .i64 0, .int .i64 0] 43)).heap.size := by simp
        have z0 : (u1.alloc (.cells #[.int .i64 0, .int .i64 0, .int .i64 0] 43)).cell? ⟨u1.heap.size, 0, none⟩ = some (.int .i64 0) := by simp [go_sem]
        have z1 : (u1.alloc (.cells #[.int .i64 0, .int .i64 0, .int .i64 0] 43)).cell? ⟨u1.heap.size, 1, none⟩ = some (.int .i64 0) := by simp [go_sem]
        have z2 : (u1.alloc (.cells #[.int .i64 0, .int .i64 0, .int .i64 0] 43)).cell? ⟨u1.heap.size, 2, none⟩ = some (.int .i64 0) := by simp [go_sem]
        have g0 : (u1.alloc (.cells #[.int .i64 0, .int .i64 0, .int .i64 0] 43)).frozen? ⟨u1.heap.size, 0, none⟩ = false := by simp [go_sem]
        have g1 : (u1.alloc (.cells #[.int .i64 0, .int .i64 0, .int .i64 0] 43)).frozen? ⟨u1.heap.size, 1, none⟩ = false := by simp [go_sem]
        have g2 : (u1.alloc (.cells #[.int .i64 0, .int .i64 0, .int .i64 0] 43)).frozen? ⟨u1.heap.size, 2, none⟩ = false := by simp [go_sem]
        refine wpAnyH_ready (rs := [13]) (by kernel_rfl) (by simp) ?_; refine AllReadyH.cons (o := ?_) ?_ (fun K hK => ?_) AllReadyH.nil; rotate_left 1; (next => simp only [List.getElem?_toArray, List.getElem?_cons_succ, List.getElem?_cons_zero]; rfl); go_simp
        (go_at_call 142; (with_reducible refine (HM.out _ (by omega) (by omega) (by omega) (by omega) (by omega) (by omega)).mono ?_); rintro e u2 ⟨rfl, hb⟩; (have hB : Below ((w.alloc (.cells #[.slice (some ⟨g, 0, none⟩) L.length c1, .slice (some ⟨gs, 0, none⟩) N N, v2, .slice (some ⟨gb, 0, none⟩) N N] 82)).alloc (.cells #[.int .i64 0, .int .i64 0, .int .i64 0] 43)).heap.size ((w.alloc (.cells #[.slice (some ⟨g, 0, none⟩) L.length c1, .slice (some ⟨gs, 0, none⟩) N N, v2, .slice (some ⟨gb, 0, none⟩) N N] 82)).alloc (.cells #[.int .i64 0, .int .i64 0, .int .i64 0] 43)) u2 := bl_call hb (by repeat' (first | with_reducible assumption | with_reducible refine bl_alloc ?_ _ | with_reducible refine bl_drew ?_))))
        have z0 := keep_cell hb z0
        have z1 := keep_cell hb z1
        have z2 := keep_cell hb z2
        have g0 := (hb.frozen (p := ⟨u1.heap.size, 0, none⟩) zl).trans g0
        have g1 := (hb.frozen (p := ⟨u1.heap.size, 1, none⟩) zl).trans g1
        have g2 := (hb.frozen (p := ⟨u1.heap.size, 2, none⟩) zl).trans g2
        have zq : u1.heap.size < u2.heap.size := Nat.lt_of_lt_of_le zl hb.size
        clear hb
        (try go_wp2_with fail); refine hK.out _ _ (hB) (fun hHeld => ?_); clear hK K; (try simp only [Act.put, List.setIfInBounds_toArray, List.set_cons_zero, List.set_cons_succ])
        refine wpAnyH_ready (rs := [15]) (by kernel_rfl) (by simp) ?_; refine AllReadyH.cons (o := ?_) ?_ (fun K hK => ?_) AllReadyH.nil; rotate_left 1; (next => simp only [List.getElem?_toArray, List.getElem?_cons_succ, List.getElem?_cons_zero]; rfl); go_simp
        (try go_wp2_with fail); refine hK.out _ _ (bl_set (bl_set (bl_set hB (Nat.le_trans (Nat.le_of_eq hz2) hz) _) (Nat.le_trans (Nat.le_of_eq hz2) hz) _) (Nat.le_trans (Nat.le_of_eq hz2) hz) _) (fun hHeld => ?_); clear hK K; (try simp only [Act.put, List.setIfInBounds_toArray, List.set_cons_zero, List.set_cons_succ])
        refine wpAnyH_done (by kernel_rfl) ?_ _
        (go_wp2_with fail; go_meet)
        exact ⟨_, rfl, hz, by simp [go_sem, *], by simp [go_sem, *], by simp [go_sem, *], bl_set (bl_set (bl_set hB (Nat.le_trans (Nat.le_of_eq hz2) hz) _) (Nat.le_trans (Nat.le_of_eq hz2) hz) _) (Nat.le_trans (Nat.le_of_eq hz2) hz) _⟩
    · refine AllReadyH.cons (o := ?_) ?_ (fun K hK => ?_) AllReadyH.nil; rotate_left 1; (next => simp only [List.getElem?_toArray, List.getElem?_cons_succ, List.getElem?_cons_zero]; rfl)
      go_simp
      have hB := bl_alloc hB (.cells #[.int .i64 0, .int .i64 0, .int .i64 0] 43)
      (try go_wp2_with fail); refine hK.out _ _ (hB) (fun hHeld => ?_); clear hK K; (try simp only [Act.put, List.setIfInBounds_toArray, List.set_cons_zero, List.set_cons_succ])
      have zl : w.heap.size + 1 + 1 < (((w.alloc (.cells #[.slice (some ⟨g, 0, none⟩) L.length c1, .slice (some ⟨gs, 0, none⟩) N N, v2, .slice (some ⟨gb, 0, none⟩) N N] 82)).alloc (.cells #[.int .i64 0, .int .i64 0, .int .i64 0] 43)).drew.alloc (.cells #[.int .i64 0, .int .i64 0, .int .i64 0] 43)).heap.size := by simp
      have z0 : (((w.alloc (.cells #[.slice (some ⟨g, 0, none⟩) L.length c1, .slice (some ⟨gs, 0, none⟩) N N, v2, .slice (some ⟨gb, 0, none⟩) N N] 82)).alloc (.cells #[.int .i64 0, .int .i64 0, .int .i64 0] 43)).drew.alloc (.cells #[.int .i64 0, .int .i64 0, .int .i64 0] 43)).cell? ⟨w.heap.size + 1 + 1, 0, none⟩ = some (.int .i64 0) := by rw [World.cell?_alloc_at _ _ _ _ (by simp)]; rfl
      have z1 : (((w.alloc (.cells #[.slice (some ⟨g, 0, none⟩) L.length c1, .slice (some ⟨gs, 0, none⟩) N N, v2, .slice (some ⟨gb, 0, none⟩) N N] 82)).alloc (.cells #[.int .i64 0, .int .i64 0, .int .i64 0] 43)).drew.alloc (.cells #[.int .i64 0, .int .i64 0, .int .i64 0] 43)).cell? ⟨w.heap.size + 1 + 1, 1, none⟩ = some (.int .i64 0) := by rw [World.cell?_alloc_at _ _ _ _ (by simp)]; rfl
      have z2 : (((w.alloc (.cells #[.slice (some ⟨g, 0, none⟩) L.length c1, .slice (some ⟨gs, 0, none⟩) N N, v2, .slice (some ⟨gb, 0, none⟩) N N] 82)).alloc (.cells #[.int .i64 0, .int .i64 0, .int .i64 0] 43)).drew.alloc (.cells #[.int .i64 0, .int .i64 0, .int .i64 0] 43)).cell? ⟨w.heap.size + 1 + 1, 2, none⟩ = some (.int .i64 0) := by rw [World.cell?_alloc_at _ _ _ _ (by simp)]; rfl
      have g0 : (((w.alloc (.cells #[.slice (some ⟨g, 0, none⟩) L.length c1, .slice (some ⟨gs, 0, none⟩) N N, v2, .slice (some ⟨gb, 0, none⟩) N N] 82)).alloc (.cells #[.int .i64 0, .int .i64 0, .int .i64 0] 43)).drew.alloc (.cells #[.int .i64 0, .int .i64 0, .int .i64 0] 43)).frozen? ⟨w.heap.size + 1 + 1, 0, none⟩ = false := by simp [go_sem]
      have g1 : (((w.alloc (.cells #[.slice (some ⟨g, 0, none⟩) L.length c1, .slice (some ⟨gs, 0, none⟩) N N, v2, .slice (some ⟨gb, 0, none⟩) N N] 82)).alloc (.cells #[.int .i64 0, .int .i64 0, .int .i64 0] 43)).drew.alloc (.cells #[.int .i64 0, .int .i64 0, .int .i64 0] 43)).frozen? ⟨w.heap.size + 1 + 1, 1, none⟩ = false := by simp [go_sem]
      have g2 : (((w.alloc (.cells #[.slice (some ⟨g, 0, none⟩) L.length c1, .slice (some ⟨gs, 0, none⟩) N N, v2, .slice (some ⟨gb, 0, none⟩) N N] 82)).alloc (.cells #[.int .i64 0, .int .i64 0, .int .i64 0] 43)).drew.alloc (.cells #[.int .i64 0, .int .i64 0, .int .i64 0] 43)).frozen? ⟨w.heap.size + 1 + 1, 2, none⟩ = false := by simp [go_sem]
      have hz : w.heap.size + 2 ≤ w.heap.size + 1 + 1 := by omega
      refine wpAnyH_ready (rs := [10]) (by kernel_rfl) (by simp) ?_; refine AllReadyH.cons (o := ?_) ?_ (fun K hK => ?_) AllReadyH.nil; rotate_left 1; (next => simp only [List.getElem?_toArray, List.getElem?_cons_succ, List.getElem?_cons_zero]; rfl); go_simp
      (go_at_call 139; (with_reducible refine (HST.out _ (bl_call (by repeat' (first | with_reducible assumption | with_reducible refine bl_alloc ?_ _ | with_reducible refine bl_drew ?_)) hB2) _ _ _).mono ?_); rintro e u1 ⟨rfl, hb⟩; (have hB : Below ((w.alloc (.cells #[.slice (some ⟨g, 0, none⟩) L.length c1, .slice (some ⟨gs, 0, none⟩) N N, v2, .slice (some ⟨gb, 0, none⟩) N N] 82)).alloc (.cells #[.int .i64 0, .int .i64 0, .int .i64 0] 43)).heap.size ((w.alloc (.cells #[.slice (some ⟨g, 0, none⟩) L.length c1, .slice (some ⟨gs, 0, none⟩) N N, v2, .slice (some ⟨gb, 0, none⟩) N N] 82)).alloc (.cells #[.int .i64 0, .int .i64 0, .int .i64 0] 43)) u1 := bl_call hb (by repeat' (first | with_reducible assumption | with_reducible refine bl_alloc ?_ _ | with_reducible refine bl_drew ?_))))
      have z0 := keep_cell hb z0
      have z1 := keep_cell hb z1
      have z2 := keep_cell hb z2
      have g0 := (hb.frozen (p := ⟨w.heap.size + 1 + 1, 0, none⟩) zl).trans g0
      have g1 := (hb.frozen (p := ⟨w.heap.size + 1 + 1, 1, none⟩) zl).trans g1
      have g2 := (hb.frozen (p := ⟨w.heap.size + 1 + 1, 2, none⟩) zl).trans g2
      have zl := Nat.lt_of_lt_of_le zl hb.size
      clear hb
      (try go_wp2_with fail); refine hK.out _ _ (hB) (fun hHeld => ?_); clear hK K; (try simp only [Act.put, List.setIfInBounds_toArray, List.set_cons_zero, List.set_cons_succ])
      (first | refine tky 11 (h := ?_) | refine tkn 11 (h := ?_)); (try simp only [Act.put, tkd, tke, tkf])
      refine tkY (i := 12) (oi := ?_) (v := ?_) ?_ (by kernel_rfl) ?_ ?_ ?_ (by assumption) ?_; rotate_left 2; (next => simp only [tka, tkb, tkc]; rfl); (next => exact fun _ _ _ h => h); (next => rfl); (next => intro w_ hSw; (try dsimp only at hSw); have b0 := keep_cell hSw b0; have b1 := keep_cell hSw b1; have b2 := keep_cell hSw b2; go_simp; (try (with_reducible rfl))); (try simp only [Act.put, tkd, tke, tkf])
      refine wpAnyH_ready (rs := [13]) (by kernel_rfl) (by simp) ?_; refine AllReadyH.cons (o := ?_) ?_ (fun K hK => ?_) AllReadyH.nil; rotate_left 1; (next => simp only [List.getElem?_toArray, List.getElem?_cons_succ, List.getElem?_cons_zero]; rfl); go_simp
      (go_at_call 142; (with_reducible refine (HM.out _ (by omega) (by omega) (by omega) (by omega) (by omega) (by omega)).mono ?_); rintro e u2 ⟨rfl, hb⟩; (have hB : Below ((w.alloc (.cells #[.slice (some ⟨g, 0, none⟩) L.length c1, .slice (some ⟨gs, 0, none⟩) N N, v2, .slice (some ⟨gb, 0, none⟩) N N] 82)).alloc (.cells #[.int .i64 0, .int .i64 0, .int .i64 0] 43)).heap.size ((w.alloc (.cells #[.slice (some ⟨g, 0, none⟩) L.length c1, .slice (some ⟨gs, 0, none⟩) N N, v2, .slice (some ⟨gb, 0, none⟩) N N] 82)).alloc (.cells #[.int .i64 0, .int .i64 0, .int .i64 0] 43)) u2 := bl_call hb (by repeat' (first | with_reducible assumption | with_reducible refine bl_alloc ?_ _ | with_reducible refine bl_drew ?_))))
      have z0 := keep_cell hb z0
      have z1 := keep_cell hb z1
      have z2 := keep_cell hb z2
      have g0 := (hb.frozen (p := ⟨w.heap.size + 1 + 1, 0, none⟩) zl).trans g0
      have g1 := (hb.frozen (p := ⟨w.heap.size + 1 + 1, 1, none⟩) zl).trans g1
      have g2 := (hb.frozen (p := ⟨w.heap.size + 1 + 1, 2, none⟩) zl).trans g2
      have zl := Nat.lt_of_lt_of_le zl hb.size
      clear hb
      (try go_wp2_with fail); refine hK.out _ _ (hB) (fun hHeld => ?_); clear hK K; (try simp only [Act.put, List.setIfInBounds_toArray, List.set_cons_zero, List.set_cons_succ])
      refine wpAnyH_ready (rs := [15]) (by kernel_rfl) (by simp) ?_; refine AllReadyH.cons (o := ?_) ?_ (fun K hK => ?_) AllReadyH.nil; rotate_left 1; (next => simp only [List.getElem?_toArray, List.getElem?_cons_succ, List.getElem?_cons_zero]; rfl); go_simp
      (try go_wp2_with fail); refine hK.out _ _ (bl_set (bl_set (bl_set hB (Nat.le_trans (Nat.le_of_eq hz2) hz) _) (Nat.le_trans (Nat.le_of_eq hz2) hz) _) (Nat.le_trans (Nat.le_of_eq hz2) hz) _) (fun hHeld => ?_); clear hK K; (try simp only [Act.put, List.setIfInBounds_toArray, List.set_cons_zero, List.set_cons_succ])
      refine wpAnyH_done (by kernel_rfl) ?_ _
      (go_wp2_with fail; go_meet)
      exact ⟨_, rfl, hz, by simp [go_sem, *], by simp [go_sem, *], by simp [go_sem, *], bl_set (bl_set (bl_set hB (Nat.le_trans (Nat.le_of_eq hz2) hz) _) (Nat.le_trans (Nat.le_of_eq hz2) hz) _) (Nat.le_trans (Nat.le_of_eq hz2) hz) _⟩
  case rest =>
    obtain ⟨r, rfl, hr, c0, c1', c2, hbw⟩ := hcut
    have k0 := keep_cell hbw k0
    have e0 := keep_cell hbw e0
    have r0 := keep_cell hbw r0
    have r1 := keep_cell hbw r1
    have r2 := keep_cell hbw r2
    have lw : w.heap.size + 1 < ((w.alloc (.cells #[.slice (some ⟨g, 0, none⟩) L.length c1, .slice (some ⟨gs, 0, none⟩) N N, v2, .slice (some ⟨gb, 0, none⟩) N N] 82)).alloc (.cells #[.int .i64 0, .int .i64 0, .int .i64 0] 43)).heap.size := by rw [hz2]; omega
    have f0 := (hbw.frozen (p := ⟨w.heap.size + 1, 0, none⟩) lw).trans f0
    have f1 := (hbw.frozen (p := ⟨w.heap.size + 1, 1, none⟩) lw).trans f1
    have f2 := (hbw.frozen (p := ⟨w.heap.size + 1, 2, none⟩) lw).trans f2
    have hrn : r ≠ w.heap.size + 1 := by omega
    have lx : w.heap.size + 1 < wc.heap.size := Nat.lt_of_lt_of_le lw hbw.size
    have HBC : Hid (Below w.heap.size w wc) := hide (bl_call hbw hB2)
    have HP := hide (plus_big (x0 - y0) (x1 - y1) (x2 - y2))
    clear k1 k2 k3 a0 a1 a2 b0 b1 b2 hbw hz2 lw hB2 HST HM
    rcases HK.out with ⟨rfl, ⟨a', rfl⟩, hm⟩ | ⟨rfl, ⟨a', b', c', rfl⟩, hm⟩ | ⟨rfl, a', p', f', rfl, hm⟩
    · have HM2 := hide hm
      subst hm
      clear HK HM2
      go_upto_region 2 with fail
      have S0 := bl_drew (bl_refl wc)
      refine wp_region_held_drew (S := fun u : World => Below (w.heap.size + 1) wc u ∧ u.cell? ⟨r, 0, none⟩ = some (.int .i64 (x0 - y0)) ∧ u.cell? ⟨r, 1, none⟩ = some (.int .i64 (x1 - y1)) ∧ u.cell? ⟨r, 2, none⟩ = some (.int .i64 (x2 - y2))) (by kernel_rfl) (⟨S0.mono (Nat.le_of_lt lx), c0, c1', c2⟩) (fun hHeld => ?_)
      refine tkY (i := 0) (oi := ?_) (v := ?_) ?_ (by kernel_rfl) ?_ ?_ ?_ (by assumption) ?_; rotate_left 2; (next => simp only [tka, tkb, tkc]; rfl); (next => exact fun _ _ _ h => h); (next => rfl); (next => intro w_ hSw; (try dsimp only at hSw); obtain ⟨_, c0, c1', c2⟩ := hSw; go_simp; (try (with_reducible rfl))); (try simp only [Act.put, tkd, tke, tkf])
      (first | refine tky 1 (h := ?_) | refine tkn 1 (h := ?_)); (try simp only [Act.put, tkd, tke, tkf])
      refine tkY (i := 2) (oi := ?_) (v := ?_) ?_ (by kernel_rfl) ?_ ?_ ?_ (by assumption) ?_; rotate_left 2; (next => simp only [tka, tkb, tkc]; rfl); (next => exact fun _ _ _ h => h); (next => rfl); (next => intro w_ hSw; (try dsimp only at hSw); have k0 := (hSw.1.cell (p := ⟨w.heap.size, 0, none⟩) (by simp)).trans k0; go_simp; (try (with_reducible rfl))); (try simp only [Act.put, tkd, tke, tkf])
      (first | refine tky 3 (h := ?_) | refine tkn 3 (h := ?_)); (try simp only [Act.put, tkd, tke, tkf])
      (first | refine tky 4 (h := ?_) | refine tkn 4 (h := ?_)); (try simp only [Act.put, tkd, tke, tkf])
      refine tkY (i := 5) (oi := ?_) (v := ?_) ?_ (by kernel_rfl) ?_ ?_ ?_ (by assumption) ?_; rotate_left 2; (next => simp only [tka, tkb, tkc]; rfl); (next => exact fun _ _ _ h => h); (next => rfl); (next => intro w_ hSw; (try dsimp only at hSw); have e0 := (hSw.1.cell (p := ⟨g, q, none⟩) (by simp; omega)).trans e0; go_simp; (try (with_reducible rfl))); (try simp only [Act.put, tkd, tke, tkf])
      refine wpAnyH_ready (rs := [6]) (by kernel_rfl) (by simp) ?_; refine AllReadyH.cons (o := ?_) ?_ (fun K hK => ?_) AllReadyH.nil; rotate_left 1; (next => simp only [List.getElem?_toArray, List.getElem?_cons_succ, List.getElem?_cons_zero]; rfl); go_simp
      (go_at_call 176; (with_reducible refine (box_atEnd _ _).mono ?_); rintro e u1 ⟨rfl, hb⟩)
      have S1 : Below wc.heap.size wc u1 := bl_call hb S0
      have c0 := keep_cell hb c0
      have c1' := keep_cell hb c1'
      have c2 := keep_cell hb c2
      clear hb
      (try go_wp2_with fail); refine hK.out _ _ (⟨S1.mono (Nat.le_of_lt lx), c0, c1', c2⟩) (fun hHeld => ?_); clear hK K; (try simp only [Act.put, List.setIfInBounds_toArray, List.set_cons_zero, List.set_cons_succ])
      refine wpAnyH_ready (rs := [7]) (by kernel_rfl) (by simp) ?_; refine AllReadyH.cons (o := ?_) ?_ (fun K hK => ?_) AllReadyH.nil; rotate_left 1; (next => simp only [List.getElem?_toArray, List.getElem?_cons_succ, List.getElem?_cons_zero]; rfl); go_simp
      (go_at_call 111; (with_reducible refine (HP.out 0 0 0 _ (by omega) (by omega) (by omega) (by omega) (by omega) (by omega)).mono ?_); rintro e u2 ⟨rfl, hb⟩)
      have S2 : Below wc.heap.size wc u2 := bl_call hb S1
      have c0 := keep_cell hb c0
      have c1' := keep_cell hb c1'
      have c2 := keep_cell hb c2
      have r0 := keep_cell S2 r0
      have r1 := keep_cell S2 r1
      have r2 := keep_cell S2 r2
      have f0 := (S2.frozen (p := ⟨w.heap.size + 1, 0, none⟩) lx).trans f0
      have f1 := (S2.frozen (p := ⟨w.heap.size + 1, 1, none⟩) lx).trans f1
      have f2 := (S2.frozen (p := ⟨w.heap.size + 1, 2, none⟩) lx).trans f2
      clear hb
      (try go_wp2_with fail); refine hK.out _ _ (⟨S2.mono (Nat.le_of_lt lx), c0, c1', c2⟩) (fun hHeld => ?_); clear hK K; (try simp only [Act.put, List.setIfInBounds_toArray, List.set_cons_zero, List.set_cons_succ])
      refine wpAnyH_ready (rs := [8]) (by kernel_rfl) (by simp) ?_; refine AllReadyH.cons (o := ?_) ?_ (fun K hK => ?_) AllReadyH.nil; rotate_left 1; (next => simp only [List.getElem?_toArray, List.getElem?_cons_succ, List.getElem?_cons_zero]; rfl); go_simp
      (try go_wp2_with fail); refine hK.out _ _ (⟨((((S2.mono (Nat.le_of_lt lx)).setCell (Nat.le_refl _) _).setCell (Nat.le_refl _) _).setCell (Nat.le_refl _) _), keep_far3 c0 hrn, keep_far3 c1' hrn, keep_far3 c2 hrn⟩) (fun hHeld => ?_); clear hK K; (try simp only [Act.put, List.setIfInBounds_toArray, List.set_cons_zero, List.set_cons_succ])
      refine wpAnyH_done (by kernel_rfl) ?_ _
      go_wp2
      refine bodyPost_ret (v := gv (x0 - y0 + 0) (x1 - y1) (x2 - y2)) (by simp [results, Try.results101, go_sem, *]) rfl ⟨rfl, bl_set (bl_set (bl_set (bl_call S2 HBC.out) (by simp) _) (by simp) _) (by simp) _⟩
    · have HM2 := hide hm
      subst hm
      clear HK HM2
      go_upto_region 2 with fail
      have S0 := bl_drew (bl_refl wc)
      refine wp_region_held_drew (S := fun u : World => Below (w.heap.size + 1) wc u ∧ u.cell? ⟨r, 0, none⟩ = some (.int .i64 (x0 - y0)) ∧ u.cell? ⟨r, 1, none⟩ = some (.int .i64 (x1 - y1)) ∧ u.cell? ⟨r, 2, none⟩ = some (.int .i64 (x2 - y2))) (by kernel_rfl) (⟨S0.mono (Nat.le_of_lt lx), c0, c1', c2⟩) (fun hHeld => ?_)
      refine tkY (i := 0) (oi := ?_) (v := ?_) ?_ (by kernel_rfl) ?_ ?_ ?_ (by assumption) ?_; rotate_left 2; (next => simp only [tka, tkb, tkc]; rfl); (next => exact fun _ _ _ h => h); (next => rfl); (next => intro w_ hSw; (try dsimp only at hSw); obtain ⟨_, c0, c1', c2⟩ := hSw; go_simp; (try (with_reducible rfl))); (try simp only [Act.put, tkd, tke, tkf])
      (first | refine tky 1 (h := ?_) | refine tkn 1 (h := ?_)); (try simp only [Act.put, tkd, tke, tkf])
      refine tkY (i := 2) (oi := ?_) (v := ?_) ?_ (by kernel_rfl) ?_ ?_ ?_ (by assumption) ?_; rotate_left 2; (next => simp only [tka, tkb, tkc]; rfl); (next => exact fun _ _ _ h => h); (next => rfl); (next => intro w_ hSw; (try dsimp only at hSw); have k0 := (hSw.1.cell (p := ⟨w.heap.size, 0, none⟩) (by simp)).trans k0; go_simp; (try (with_reducible rfl))); (try simp only [Act.put, tkd, tke, tkf])
      (first | refine tky 3 (h := ?_) | refine tkn 3 (h := ?_)); (try simp only [Act.put, tkd, tke, tkf])
      (first | refine tky 4 (h := ?_) | refine tkn 4 (h := ?_)); (try simp only [Act.put, tkd, tke, tkf])
      refine tkY (i := 5) (oi := ?_) (v := ?_) ?_ (by kernel_rfl) ?_ ?_ ?_ (by assumption) ?_; rotate_left 2; (next => simp only [tka, tkb, tkc]; rfl); (next => exact fun _ _ _ h => h); (next => rfl); (next => intro w_ hSw; (try dsimp only at hSw); have e0 := (hSw.1.cell (p := ⟨g, q, none⟩) (by simp; omega)).trans e0; go_simp; (try (with_reducible rfl))); (try simp only [Act.put, tkd, tke, tkf])
      refine wpAnyH_ready (rs := [6]) (by kernel_rfl) (by simp) ?_; refine AllReadyH.cons (o := ?_) ?_ (fun K hK => ?_) AllReadyH.nil; rotate_left 1; (next => simp only [List.getElem?_toArray, List.getElem?_cons_succ, List.getElem?_cons_zero]; rfl); go_simp
      (go_at_call 182; (with_reducible refine (glue_atEnd _ _ _ _).mono ?_); rintro e u1 ⟨rfl, hb⟩)
      have S1 : Below wc.heap.size wc u1 := bl_call hb S0
      have c0 := keep_cell hb c0
      have c1' := keep_cell hb c1'
      have c2 := keep_cell hb c2
      clear hb
      (try go_wp2_with fail); refine hK.out _ _ (⟨S1.mono (Nat.le_of_lt lx), c0, c1', c2⟩) (fun hHeld => ?_); clear hK K; (try simp only [Act.put, List.setIfInBounds_toArray, List.set_cons_zero, List.set_cons_succ])
      refine wpAnyH_ready (rs := [7]) (by kernel_rfl) (by simp) ?_; refine AllReadyH.cons (o := ?_) ?_ (fun K hK => ?_) AllReadyH.nil; rotate_left 1; (next => simp only [List.getElem?_toArray, List.getElem?_cons_succ, List.getElem?_cons_zero]; rfl); go_simp
      (go_at_call 111; (with_reducible refine (HP.out 0 0 0 _ (by omega) (by omega) (by omega) (by omega) (by omega) (by omega)).mono ?_); rintro e u2 ⟨rfl, hb⟩)
      have S2 : Below wc.heap.size wc u2 := bl_call hb S1
      have c0 := keep_cell hb c0
      have c1' := keep_cell hb c1'
      have c2 := keep_cell hb c2
      have r0 := keep_cell S2 r0
      have r1 := keep_cell S2 r1
      have r2 := keep_cell S2 r2
      have f0 := (S2.frozen (p := ⟨w.heap.size + 1, 0, none⟩) lx).trans f0
      have f1 := (S2.frozen (p := ⟨w.heap.size + 1, 1, none⟩) lx).trans f1
      have f2 := (S2.frozen (p := ⟨w.heap.size + 1, 2, none⟩) lx).trans f2
      clear hb
      (try go_wp2_with fail); refine hK.out _ _ (⟨S2.mono (Nat.le_of_lt lx), c0, c1', c2⟩) (fun hHeld => ?_); clear hK K; (try simp only [Act.put, List.setIfInBounds_toArray, List.set_cons_zero, List.set_cons_succ])
      refine wpAnyH_ready (rs := [8]) (by kernel_rfl) (by simp) ?_; refine AllReadyH.cons (o := ?_) ?_ (fun K hK => ?_) AllReadyH.nil; rotate_left 1; (next => simp only [List.getElem?_toArray, List.getElem?_cons_succ, List.getElem?_cons_zero]; rfl); go_simp
      (try go_wp2_with fail); refine hK.out _ _ (⟨((((S2.mono (Nat.le_of_lt lx)).setCell (Nat.le_refl _) _).setCell (Nat.le_refl _) _).setCell (Nat.le_refl _) _), keep_far3 c0 hrn, keep_far3 c1' hrn, keep_far3 c2 hrn⟩) (fun hHeld => ?_); clear hK K; (try simp only [Act.put, List.setIfInBounds_toArray, List.set_cons_zero, List.set_cons_succ])
      refine wpAnyH_done (by kernel_rfl) ?_ _
      go_wp2
      refine bodyPost_ret (v := gv (x0 - y0 + 0) (x1 - y1) (x2 - y2)) (by simp [results, Try.results101, go_sem, *]) rfl ⟨rfl, bl_set (bl_set (bl_set (bl_call S2 HBC.out) (by simp) _) (by simp) _) (by simp) _⟩
    · have HM2 := hide hm
      subst hm
      clear HK HM2
      go_upto_region 2 with fail
      have S0 := bl_drew (bl_refl wc)
      refine wp_region_held_drew (S := fun u : World => Below (w.heap.size + 1) wc u ∧ u.cell? ⟨r, 0, none⟩ = some (.int .i64 (x0 - y0)) ∧ u.cell? ⟨r, 1, none⟩ = some (.int .i64 (x1 - y1)) ∧ u.cell? ⟨r, 2, none⟩ = some (.int .i64 (x2 - y2))) (by kernel_rfl) (⟨S0.mono (Nat.le_of_lt lx), c0, c1', c2⟩) (fun hHeld => ?_)
      refine tkY (i := 0) (oi := ?_) (v := ?_) ?_ (by kernel_rfl) ?_ ?_ ?_ (by assumption) ?_; rotate_left 2; (next => simp only [tka, tkb, tkc]; rfl); (next => exact fun _ _ _ h => h); (next => rfl); (next => intro w_ hSw; (try dsimp only at hSw); obtain ⟨_, c0, c1', c2⟩ := hSw; go_simp; (try (with_reducible rfl))); (try simp only [Act.put, tkd, tke, tkf])
      (first | refine tky 1 (h := ?_) | refine tkn 1 (h := ?_)); (try simp only [Act.put, tkd, tke, tkf])
      refine tkY (i := 2) (oi := ?_) (v := ?_) ?_ (by kernel_rfl) ?_ ?_ ?_ (by assumption) ?_; rotate_left 2; (next => simp only [tka, tkb, tkc]; rfl); (next => exact fun _ _ _ h => h); (next => rfl); (next => intro w_ hSw; (try dsimp only at hSw); have k0 := (hSw.1.cell (p := ⟨w.heap.size, 0, none⟩) (by simp)).trans k0; go_simp; (try (with_reducible rfl))); (try simp only [Act.put, tkd, tke, tkf])
      (first | refine tky 3 (h := ?_) | refine tkn 3 (h := ?_)); (try simp only [Act.put, tkd, tke, tkf])
      (first | refine tky 4 (h := ?_) | refine tkn 4 (h := ?_)); (try simp only [Act.put, tkd, tke, tkf])
      refine tkY (i := 5) (oi := ?_) (v := ?_) ?_ (by kernel_rfl) ?_ ?_ ?_ (by assumption) ?_; rotate_left 2; (next => simp only [tka, tkb, tkc]; rfl); (next => exact fun _ _ _ h => h); (next => rfl); (next => intro w_ hSw; (try dsimp only at hSw); have e0 := (hSw.1.cell (p := ⟨g, q, none⟩) (by simp; omega)).trans e0; go_simp; (try (with_reducible rfl))); (try simp only [Act.put, tkd, tke, tkf])
      refine wpAnyH_ready (rs := [6]) (by kernel_rfl) (by simp) ?_; refine AllReadyH.cons (o := ?_) ?_ (fun K hK => ?_) AllReadyH.nil; rotate_left 1; (next => simp only [List.getElem?_toArray, List.getElem?_cons_succ, List.getElem?_cons_zero]; rfl); go_simp
      (go_at_call 170; (with_reducible refine (pen_atEnd _ _ _ _).mono ?_); rintro e u1 ⟨rfl, hb⟩)
      have S1 : Below wc.heap.size wc u1 := bl_call hb S0
      have c0 := keep_cell hb c0
      have c1' := keep_cell hb c1'
      have c2 := keep_cell hb c2
      clear hb
      (try go_wp2_with fail); refine hK.out _ _ (⟨S1.mono (Nat.le_of_lt lx), c0, c1', c2⟩) (fun hHeld => ?_); clear hK K; (try simp only [Act.put, List.setIfInBounds_toArray, List.set_cons_zero, List.set_cons_succ])
      refine wpAnyH_ready (rs := [7]) (by kernel_rfl) (by simp) ?_; refine AllReadyH.cons (o := ?_) ?_ (fun K hK => ?_) AllReadyH.nil; rotate_left 1; (next => simp only [List.getElem?_toArray, List.getElem?_cons_succ, List.getElem?_cons_zero]; rfl); go_simp
      (go_at_call 111; (with_reducible refine (HP.out z 0 0 _ (by omega) (by omega) (by omega) (by omega) (by omega) (by omega)).mono ?_); rintro e u2 ⟨rfl, hb⟩)
      have S2 : Below wc.heap.size wc u2 := bl_call hb S1
      have c0 := keep_cell hb c0
      have c1' := keep_cell hb c1'
      have c2 := keep_cell hb c2
      have r0 := keep_cell S2 r0
      have r1 := keep_cell S2 r1
      have r2 := keep_cell S2 r2
      have f0 := (S2.frozen (p := ⟨w.heap.size + 1, 0, none⟩) lx).trans f0
      have f1 := (S2.frozen (p := ⟨w.heap.size + 1, 1, none⟩) lx).trans f1
      have f2 := (S2.frozen (p := ⟨w.heap.size + 1, 2, none⟩) lx).trans f2
      clear hb
      (try go_wp2_with fail); refine hK.out _ _ (⟨S2.mono (Nat.le_of_lt lx), c0, c1', c2⟩) (fun hHeld => ?_); clear hK K; (try simp only [Act.put, List.setIfInBounds_toArray, List.set_cons_zero, List.set_cons_succ])
      refine wpAnyH_ready (rs := [8]) (by kernel_rfl) (by simp) ?_; refine AllReadyH.cons (o := ?_) ?_ (fun K hK => ?_) AllReadyH.nil; rotate_left 1; (next => simp only [List.getElem?_toArray, List.getElem?_cons_succ, List.getElem?_cons_zero]; rfl); go_simp
      (try go_wp2_with fail); refine hK.out _ _ (⟨((((S2.mono (Nat.le_of_lt lx)).setCell (Nat.le_refl _) _).setCell (Nat.le_refl _) _).setCell (Nat.le_refl _) _), keep_far3 c0 hrn, keep_far3 c1' hrn, keep_far3 c2 hrn⟩) (fun hHeld => ?_); clear hK K; (try simp only [Act.put, List.setIfInBounds_toArray, List.set_cons_zero, List.set_cons_succ])
      refine wpAnyH_done (by kernel_rfl) ?_ _
      go_wp2
      refine bodyPost_ret (v := gv (x0 - y0 + z) (x1 - y1) (x2 - y2)) (by simp [results, Try.results101, go_sem, *]) rfl ⟨rfl, bl_set (bl_set (bl_set (bl_call S2 HBC.out) (by simp) _) (by simp) _) (by simp) _⟩
end Go.Proofs.Ytmncdpiojhgcdaa

/- The lengths and the boxes of lines, in the program. -/
namespace Go.Proofs.Ytmncdpiojhgcdaa
open Go.ChangeShapes Go.WideShapes Go.ChangeAt Go.RowKit
set_option linter.unusedVariables false

/-- The methods of a measured paragraph, at any world behind. -/
theorem pr_mono {w : World} {B B' gs gf gb n : Nat} {S : List Gp} {F X : List Int} (h : PR w B gs gf gb S F X n) (hb : B' ≤ B) : PR w B' gs gf gb S F X n := ⟨World.ownsRow.mono h.1 hb, World.ownsRow.mono h.2.1 hb, World.ownsRow.mono h.2.2 hb⟩
theorem PS.hasLine {u : World} {B gp g c1 gs gf gb : Nat} {L : List It} (h : PS u B gp g c1 gs gf gb L) (hall : ∀ i, i < L.length → itOk (tg L i) = true) (h1 : 1 ≤ L.length ∧ L.length ≤ 60) (a b : Int) (wa : -9223372036854775808 ≤ a ∧ a ≤ 9223372036854775807) (wb : -9223372036854775808 ≤ b ∧ b ≤ 9223372036854775807) :
    Calls Try.prog 95 #[.agg #[.slice (some ⟨g, 0, none⟩) L.length c1, .slice (some ⟨gs, 0, none⟩) (L.length + 1) (L.length + 1), .slice (some ⟨gf, 0, none⟩) (L.length + 1) (L.length + 1), .slice (some ⟨gb, 0, none⟩) (L.length + 1) (L.length + 1)], .int .i64 a, .int .i64 b] u fun e w' => e = .returned (.bool (hasL L a b)) ∧ Below u.heap.size u w' :=
  hasLine_i u _ _ L hall h1.1 h1.2 rfl h.row h.pr.2.1 a b wa wb
theorem PS.lineGlue {u : World} {B gp g c1 gs gf gb : Nat} {L : List It} (h : PS u B gp g c1 gs gf gb L) (hall : ∀ i, i < L.length → itOk (tg L i) = true) (h1 : 1 ≤ L.length ∧ L.length ≤ 60) (a : Int) (p q : Nat) (hp : a + 1 = (p : Int)) (hpl : p ≤ L.length) (hq : q < L.length) :
    Calls Try.prog 101 #[.agg #[.slice (some ⟨g, 0, none⟩) L.length c1, .slice (some ⟨gs, 0, none⟩) (L.length + 1) (L.length + 1), .slice (some ⟨gf, 0, none⟩) (L.length + 1) (L.length + 1), .slice (some ⟨gb, 0, none⟩) (L.length + 1) (L.length + 1)], .int .i64 a, .int .i64 q] u fun e w' => e = .returned (gv (sW L q - sW L (min (fBx L p) q) + atW (tg L q)) (sT L q - sT L (min (fBx L p) q)) (sS L q - sS L (min (fBx L p) q))) ∧ Below u.heap.size u w' :=
  lineGlue_i u _ L hall h1.2 rfl h.row h.pr.1 h.pr.2.2 a p q hp hpl hq
theorem PS.start {u : World} {B gp g c1 gs gf gb : Nat} {L : List It} (h : PS u B gp g c1 gs gf gb L) (h1 : 1 ≤ L.length ∧ L.length ≤ 60) (a : Int) (p q : Nat) (hp : a + 1 = (p : Int)) (hpl : p ≤ L.length) (hq : q ≤ L.length) :
    Calls Try.prog 139 #[.agg #[.slice (some ⟨g, 0, none⟩) L.length c1, .slice (some ⟨gs, 0, none⟩) (L.length + 1) (L.length + 1), .slice (some ⟨gf, 0, none⟩) (L.length + 1) (L.length + 1), .slice (some ⟨gb, 0, none⟩) (L.length + 1) (L.length + 1)], .int .i64 a, .int .i64 q] u fun e w' => e = .returned (.int .i64 ((min (fBx L p) q : Nat) : Int)) ∧ Below u.heap.size u w' :=
  start_i u _ _ _ L h1.2 rfl h.pr.2.2 a p q hp hpl hq

/-- What LineGlue answers. -/
noncomputable def lgO (L : List It) (a b : Int) : Value := if okL L a b then .tuple #[gv (lgW L a b) (lgT L a b) (lgS L a b), .bool true] else .tuple #[gv 0 0 0, .bool false]
theorem lgO_no {L : List It} {a b : Int} (h : okL L a b = false) : lgO L a b = .tuple #[gv 0 0 0, .bool false] := by simp [lgO, h]
theorem lgO_yes {L : List It} {a b : Int} {p q : Nat} (h : okL L a b = true) (hp : a + 1 = (p : Int)) (hq : b = (q : Int)) : lgO L a b = .tuple #[gv (sW L q - sW L (min (fBx L p) q) + atW (tg L q)) (sT L q - sT L (min (fBx L p) q)) (sS L q - sS L (min (fBx L p) q)), .bool true] := by
  unfold lgO
  rw [if_pos h]
  unfold lgW lgT lgS stA
  rw [hp, hq]; rfl
set_option maxRecDepth 8000 in
set_option maxHeartbeats 4000000 in
theorem LineGlue_i (w : World) (A : Option Addr) (n c : Nat) (L : List It) (h : TL w A n L) (hn : n ≤ 1048576) (a b : Int) (wa : -9223372036854775808 ≤ a ∧ a ≤ 9223372036854775807) (wb : -9223372036854775808 ≤ b ∧ b ≤ 9223372036854775807) :
    Calls Try.prog 54 #[.slice A n c, .int .i64 a, .int .i64 b] w fun e w' => e = .returned (lgO L a b) ∧ Below w.heap.size w w' := by
  have ME := hide (measure_i (w.alloc (.cells #[.int .i64 0, .int .i64 0, .int .i64 0] 43)) A n c L (h.alloc _) (by omega))
  obtain rfl : n = L.length := h.1
  clear h
  have r0 : (w.alloc (.cells #[.int .i64 0, .int .i64 0, .int .i64 0] 43)).cell? ⟨w.heap.size, 0, none⟩ = some (.int .i64 0) := by simp [go_sem]
  have r1 : (w.alloc (.cells #[.int .i64 0, .int .i64 0, .int .i64 0] 43)).cell? ⟨w.heap.size, 1, none⟩ = some (.int .i64 0) := by simp [go_sem]
  have r2 : (w.alloc (.cells #[.int .i64 0, .int .i64 0, .int .i64 0] 43)).cell? ⟨w.heap.size, 2, none⟩ = some (.int .i64 0) := by simp [go_sem]
  have f0 : (w.alloc (.cells #[.int .i64 0, .int .i64 0, .int .i64 0] 43)).frozen? ⟨w.heap.size, 0, none⟩ = false := by simp [go_sem]
  have f1 : (w.alloc (.cells #[.int .i64 0, .int .i64 0, .int .i64 0] 43)).frozen? ⟨w.heap.size, 1, none⟩ = false := by simp [go_sem]
  have f2 : (w.alloc (.cells #[.int .i64 0, .int .i64 0, .int .i64 0] 43)).frozen? ⟨w.heap.size, 2, none⟩ = false := by simp [go_sem]
  have lx : w.heap.size < (w.alloc (.cells #[.int .i64 0, .int .i64 0, .int .i64 0] 43)).heap.size := by simp
  have HB0 := hide (bl_alloc (bl_refl w) (.cells #[.int .i64 0, .int .i64 0, .int .i64 0] 43))
  have HBZ := hide (show w.heap.size ≤ (w.alloc (.cells #[.int .i64 0, .int .i64 0, .int .i64 0] 43)).heap.size by simp)
  cases hok : isOk L
  · have E := hide (lgO_no (L := L) (a := a) (b := b) (by simp [okL, hok]))
    rw [hok] at ME
    clear hok wa wb
    go_enter Try.func54, Try.ntmps54
    go_wp2_with fail
    (with_reducible refine ME.out.mono ?_)
    rintro e u1 ⟨v, rfl, hv, hv0, hb⟩
    obtain rfl := hv0 (by trivial)
    have r0 := keep_cell hb r0; have r1 := keep_cell hb r1; have r2 := keep_cell hb r2; have f0 := (hb.frozen (p := ⟨w.heap.size, 0, none⟩) lx).trans f0; have f1 := (hb.frozen (p := ⟨w.heap.size, 1, none⟩) lx).trans f1; have f2 := (hb.frozen (p := ⟨w.heap.size, 2, none⟩) lx).trans f2; have lx := Nat.lt_of_lt_of_le lx hb.size
    have HB1 := hide (bl_call hb HB0.out)
    clear hv hv0 hb
    go_wp2
    refine bodyPost_ret (v := .tuple #[gv 0 0 0, .bool false]) (by simp [results, Try.results54, go_sem, *]) rfl ⟨by rw [E.out], ?_⟩
    have hb9 := HB1.out
    (repeat' (first | with_reducible exact bl_refl _ | with_reducible assumption | with_reducible refine bl_alloc ?_ _ | with_reducible refine bl_set ?_ ?_ _ | with_reducible refine bl_drewN ?_ _ | with_reducible refine bl_drew ?_ | with_reducible refine bl_call (by assumption) ?_))
    (all_goals (first | omega | (simp; done) | (simp; omega)))
  · have HK := isOk_iff.1 hok
    have HALL := hide HK.1
    have hl60 := HK.2.1
    rw [hok] at ME
    clear HK
    cases hh : hasL L a b
    · have E := hide (lgO_no (L := L) (a := a) (b := b) (by simp [okL, hh]))
      clear hok
      go_enter Try.func54, Try.ntmps54
      go_wp2_with fail
      (with_reducible refine ME.out.mono ?_)
      rintro e u1 ⟨v, rfl, hv, hv0, hb⟩
      obtain ⟨g, c1, gs, gf, gb, rfl, hrow, hpr⟩ := hv (by trivial)
      have HPS := hide (ps_made hrow hpr)
      have r0 := keep_cell hb r0; have r1 := keep_cell hb r1; have r2 := keep_cell hb r2; have f0 := (hb.frozen (p := ⟨w.heap.size, 0, none⟩) lx).trans f0; have f1 := (hb.frozen (p := ⟨w.heap.size, 1, none⟩) lx).trans f1; have f2 := (hb.frozen (p := ⟨w.heap.size, 2, none⟩) lx).trans f2; have lx := Nat.lt_of_lt_of_le lx hb.size
      have HB1 := hide (bl_call hb HB0.out)
      have PH := HPS.out.hasLine HALL.out hl60 a b wa wb
      rw [hh] at PH
      have HPH := hide PH
      clear hv hv0 hb hrow hpr hh PH wa wb
      have r0 := keep_alloc r0 (.cells #[.slice (some ⟨g, 0, none⟩) L.length c1, .slice (some ⟨gs, 0, none⟩) (L.length + 1) (L.length + 1), .slice (some ⟨gf, 0, none⟩) (L.length + 1) (L.length + 1), .slice (some ⟨gb, 0, none⟩) (L.length + 1) (L.length + 1)] 82); have r1 := keep_alloc r1 (.cells #[.slice (some ⟨g, 0, none⟩) L.length c1, .slice (some ⟨gs, 0, none⟩) (L.length + 1) (L.length + 1), .slice (some ⟨gf, 0, none⟩) (L.length + 1) (L.length + 1), .slice (some ⟨gb, 0, none⟩) (L.length + 1) (L.length + 1)] 82); have r2 := keep_alloc r2 (.cells #[.slice (some ⟨g, 0, none⟩) L.length c1, .slice (some ⟨gs, 0, none⟩) (L.length + 1) (L.length + 1), .slice (some ⟨gf, 0, none⟩) (L.length + 1) (L.length + 1), .slice (some ⟨gb, 0, none⟩) (L.length + 1) (L.length + 1)] 82); have f0 := (World.frozen?_alloc_past (.cells #[.slice (some ⟨g, 0, none⟩) L.length c1, .slice (some ⟨gs, 0, none⟩) (L.length + 1) (L.length + 1), .slice (some ⟨gf, 0, none⟩) (L.length + 1) (L.length + 1), .slice (some ⟨gb, 0, none⟩) (L.length + 1) (L.length + 1)] 82) w.heap.size 0 lx).trans f0; have f1 := (World.frozen?_alloc_past (.cells #[.slice (some ⟨g, 0, none⟩) L.length c1, .slice (some ⟨gs, 0, none⟩) (L.length + 1) (L.length + 1), .slice (some ⟨gf, 0, none⟩) (L.length + 1) (L.length + 1), .slice (some ⟨gb, 0, none⟩) (L.length + 1) (L.length + 1)] 82) w.heap.size 1 lx).trans f1; have f2 := (World.frozen?_alloc_past (.cells #[.slice (some ⟨g, 0, none⟩) L.length c1, .slice (some ⟨gs, 0, none⟩) (L.length + 1) (L.length + 1), .slice (some ⟨gf, 0, none⟩) (L.length + 1) (L.length + 1), .slice (some ⟨gb, 0, none⟩) (L.length + 1) (L.length + 1)] 82) w.heap.size 2 lx).trans f2
      have HB1 := hide (bl_alloc HB1.out (.cells #[.slice (some ⟨g, 0, none⟩) L.length c1, .slice (some ⟨gs, 0, none⟩) (L.length + 1) (L.length + 1), .slice (some ⟨gf, 0, none⟩) (L.length + 1) (L.length + 1), .slice (some ⟨gb, 0, none⟩) (L.length + 1) (L.length + 1)] 82))
      have lx : w.heap.size < (u1.alloc (.cells #[.slice (some ⟨g, 0, none⟩) L.length c1, .slice (some ⟨gs, 0, none⟩) (L.length + 1) (L.length + 1), .slice (some ⟨gf, 0, none⟩) (L.length + 1) (L.length + 1), .slice (some ⟨gb, 0, none⟩) (L.length + 1) (L.length + 1)] 82)).heap.size := Nat.lt_of_lt_of_le lx (by simp)
      have k0 := HPS.out.k0
      have k1 := HPS.out.k1
      have k2 := HPS.out.k2
      have k3 := HPS.out.k3
      go_wp2_with fail
      (with_reducible refine HPH.out.mono ?_)
      rintro e u2 ⟨rfl, hb⟩
      have r0 := keep_cell hb r0; have r1 := keep_cell hb r1; have r2 := keep_cell hb r2; have f0 := (hb.frozen (p := ⟨w.heap.size, 0, none⟩) lx).trans f0; have f1 := (hb.frozen (p := ⟨w.heap.size, 1, none⟩) lx).trans f1; have f2 := (hb.frozen (p := ⟨w.heap.size, 2, none⟩) lx).trans f2; have lx := Nat.lt_of_lt_of_le lx hb.size
      have HB2 := hide (bl_call hb HB1.out)
      clear hb k0 k1 k2 k3
      go_wp2
      refine bodyPost_ret (v := .tuple #[gv 0 0 0, .bool false]) (by simp [results, Try.results54, go_sem, *]) rfl ⟨by rw [E.out], ?_⟩
      have hb9 := HB2.out
      (repeat' (first | with_reducible exact bl_refl _ | with_reducible assumption | with_reducible refine bl_alloc ?_ _ | with_reducible refine bl_set ?_ ?_ _ | with_reducible refine bl_drewN ?_ _ | with_reducible refine bl_drew ?_ | with_reducible refine bl_call (by assumption) ?_))
      (all_goals (first | omega | (simp; done) | (simp; omega)))
    · have hol : okL L a b = true := by simp [okL, hok, hh]
      obtain ⟨p, q, hp, rfl, hpq, hq, _⟩ := hasL_of hh
      have E := hide (lgO_yes hol hp rfl)
      clear hok hol
      go_enter Try.func54, Try.ntmps54
      go_wp2_with fail
      (with_reducible refine ME.out.mono ?_)
      rintro e u1 ⟨v, rfl, hv, hv0, hb⟩
      obtain ⟨g, c1, gs, gf, gb, rfl, hrow, hpr⟩ := hv (by trivial)
      have HPS := hide (ps_made hrow hpr)
      have r0 := keep_cell hb r0; have r1 := keep_cell hb r1; have r2 := keep_cell hb r2; have f0 := (hb.frozen (p := ⟨w.heap.size, 0, none⟩) lx).trans f0; have f1 := (hb.frozen (p := ⟨w.heap.size, 1, none⟩) lx).trans f1; have f2 := (hb.frozen (p := ⟨w.heap.size, 2, none⟩) lx).trans f2; have lx := Nat.lt_of_lt_of_le lx hb.size
      have HB1 := hide (bl_call hb HB0.out)
      have PH := HPS.out.hasLine HALL.out hl60 a q wa wb
      rw [hh] at PH
      have HPH := hide PH
      have HLG := hide (fun (u : World) (hu : PS u w.heap.size u1.heap.size g c1 gs gf gb L) => hu.lineGlue HALL.out hl60 a p q hp (by omega) hq)
      clear hv hv0 hb hrow hpr hh PH wa wb hp
      have r0 := keep_alloc r0 (.cells #[.slice (some ⟨g, 0, none⟩) L.length c1, .slice (some ⟨gs, 0, none⟩) (L.length + 1) (L.length + 1), .slice (some ⟨gf, 0, none⟩) (L.length + 1) (L.length + 1), .slice (some ⟨gb, 0, none⟩) (L.length + 1) (L.length + 1)] 82); have r1 := keep_alloc r1 (.cells #[.slice (some ⟨g, 0, none⟩) L.length c1, .slice (some ⟨gs, 0, none⟩) (L.length + 1) (L.length + 1), .slice (some ⟨gf, 0, none⟩) (L.length + 1) (L.length + 1), .slice (some ⟨gb, 0, none⟩) (L.length + 1) (L.length + 1)] 82); have r2 := keep_alloc r2 (.cells #[.slice (some ⟨g, 0, none⟩) L.length c1, .slice (some ⟨gs, 0, none⟩) (L.length + 1) (L.length + 1), .slice (some ⟨gf, 0, none⟩) (L.length + 1) (L.length + 1), .slice (some ⟨gb, 0, none⟩) (L.length + 1) (L.length + 1)] 82); have f0 := (World.frozen?_alloc_past (.cells #[.slice (some ⟨g, 0, none⟩) L.length c1, .slice (some ⟨gs, 0, none⟩) (L.length + 1) (L.length + 1), .slice (some ⟨gf, 0, none⟩) (L.length + 1) (L.length + 1), .slice (some ⟨gb, 0, none⟩) (L.length + 1) (L.length + 1)] 82) w.heap.size 0 lx).trans f0; have f1 := (World.frozen?_alloc_past (.cells #[.slice (some ⟨g, 0, none⟩) L.length c1, .slice (some ⟨gs, 0, none⟩) (L.length + 1) (L.length + 1), .slice (some ⟨gf, 0, none⟩) (L.length + 1) (L.length + 1), .slice (some ⟨gb, 0, none⟩) (L.length + 1) (L.length + 1)] 82) w.heap.size 1 lx).trans f1; have f2 := (World.frozen?_alloc_past (.cells #[.slice (some ⟨g, 0, none⟩) L.length c1, .slice (some ⟨gs, 0, none⟩) (L.length + 1) (L.length + 1), .slice (some ⟨gf, 0, none⟩) (L.length + 1) (L.length + 1), .slice (some ⟨gb, 0, none⟩) (L.length + 1) (L.length + 1)] 82) w.heap.size 2 lx).trans f2
      have HB1 := hide (bl_alloc HB1.out (.cells #[.slice (some ⟨g, 0, none⟩) L.length c1, .slice (some ⟨gs, 0, none⟩) (L.length + 1) (L.length + 1), .slice (some ⟨gf, 0, none⟩) (L.length + 1) (L.length + 1), .slice (some ⟨gb, 0, none⟩) (L.length + 1) (L.length + 1)] 82))
      have lx : w.heap.size < (u1.alloc (.cells #[.slice (some ⟨g, 0, none⟩) L.length c1, .slice (some ⟨gs, 0, none⟩) (L.length + 1) (L.length + 1), .slice (some ⟨gf, 0, none⟩) (L.length + 1) (L.length + 1), .slice (some ⟨gb, 0, none⟩) (L.length + 1) (L.length + 1)] 82)).heap.size := Nat.lt_of_lt_of_le lx (by simp)
      have HPS := hide (show PS _ w.heap.size u1.heap.size g c1 gs gf gb L from ⟨HPS.out.k0, HPS.out.k1, HPS.out.k2, HPS.out.k3, World.ownsRow.mono HPS.out.row HBZ.out, pr_mono HPS.out.pr HBZ.out⟩)
      have k0 := HPS.out.k0
      have k1 := HPS.out.k1
      have k2 := HPS.out.k2
      have k3 := HPS.out.k3
      go_wp2_with fail
      (with_reducible refine HPH.out.mono ?_)
      rintro e u2 ⟨rfl, hb⟩
      have r0 := keep_cell hb r0; have r1 := keep_cell hb r1; have r2 := keep_cell hb r2; have f0 := (hb.frozen (p := ⟨w.heap.size, 0, none⟩) lx).trans f0; have f1 := (hb.frozen (p := ⟨w.heap.size, 1, none⟩) lx).trans f1; have f2 := (hb.frozen (p := ⟨w.heap.size, 2, none⟩) lx).trans f2; have lx := Nat.lt_of_lt_of_le lx hb.size
      have HB2 := hide (bl_call hb HB1.out)
      have k0 := keep_cell hb k0
      have k1 := keep_cell hb k1
      have k2 := keep_cell hb k2
      have k3 := keep_cell hb k3
      have HPS2 := hide (HPS.out.below hb)
      clear hb
      go_wp2_with fail
      (with_reducible refine (HLG.out _ HPS2.out).mono ?_)
      rintro e u3 ⟨rfl, hb⟩
      have r0 := keep_cell hb r0; have r1 := keep_cell hb r1; have r2 := keep_cell hb r2; have f0 := (hb.frozen (p := ⟨w.heap.size, 0, none⟩) lx).trans f0; have f1 := (hb.frozen (p := ⟨w.heap.size, 1, none⟩) lx).trans f1; have f2 := (hb.frozen (p := ⟨w.heap.size, 2, none⟩) lx).trans f2; have lx := Nat.lt_of_lt_of_le lx hb.size
      have HB3 := hide (bl_call hb HB2.out)
      clear hb k0 k1 k2 k3
      obtain ⟨z0, hz0⟩ : ∃ z, z = sW L q - sW L (min (fBx L p) q) + atW (tg L q) := ⟨_, rfl⟩
      obtain ⟨z1, hz1⟩ : ∃ z, z = sT L q - sT L (min (fBx L p) q) := ⟨_, rfl⟩
      obtain ⟨z2, hz2⟩ : ∃ z, z = sS L q - sS L (min (fBx L p) q) := ⟨_, rfl⟩
      rw [← hz0, ← hz1, ← hz2] at E ⊢
      clear hz0 hz1 hz2
      go_wp2
      refine bodyPost_ret (v := .tuple #[gv z0 z1 z2, .bool true]) (by simp [results, Try.results54, go_sem, *]) rfl ⟨by rw [E.out], ?_⟩
      have hb9 := HB3.out
      (repeat' (first | with_reducible exact bl_refl _ | with_reducible assumption | with_reducible refine bl_alloc ?_ _ | with_reducible refine bl_set ?_ ?_ _ | with_reducible refine bl_drewN ?_ _ | with_reducible refine bl_drew ?_ | with_reducible refine bl_call (by assumption) ?_))
      (all_goals (first | omega | (simp; done) | (simp; omega)))
end Go.Proofs.Ytmncdpiojhgcdaa

/- The boxes of lines, in the program. -/
namespace Go.Proofs.Ytmncdpiojhgcdaa
open Go.ChangeShapes Go.WideShapes Go.ChangeAt Go.RowKit
set_option linter.unusedVariables false

theorem bxN_step {L : List It} {s k : Nat} (h : s ≤ k) : bxN L s (k + 1 - s) = if isB (tg L k) then bxN L s (k - s) ++ [(k : Int)] else bxN L s (k - s) := by
  rw [show k + 1 - s = (k - s) + 1 by omega]
  simp only [bxN]
  rw [show s + (k - s) = k by omega]
end Go.Proofs.Ytmncdpiojhgcdaa

/- LineGlue and BoxesOf of the model. -/
namespace Go.Proofs.Ytmncdpiojhgcdaa
open Go.ChangeShapes Go.WideShapes Go.ChangeAt Go.RowKit
set_option linter.unusedVariables false

set_option maxHeartbeats 2000000 in
theorem LineGlue_s (w : World) (A : Option Addr) (n c : Nat) (L : List It) (h : TL w A n L) (hn : n ≤ 1048576) (a b : Int) (wa : -9223372036854775808 ≤ a ∧ a ≤ 9223372036854775807) (wb : -9223372036854775808 ≤ b ∧ b ≤ 9223372036854775807) :
    Calls Try.prog 55 #[.slice A n c, .int .i64 a, .int .i64 b] w fun e w' => e = .returned (lgO L a b) ∧ Below w.heap.size w w' := by
  have VL := hide (validLine_s (w.alloc (.cells #[.int .i64 0, .int .i64 0, .int .i64 0] 43)) A n c L (h.alloc _) hn a b wa wb)
  obtain rfl : n = L.length := h.1
  have HI := hide (h.alloc (.cells #[.int .i64 0, .int .i64 0, .int .i64 0] 43))
  have r0 : (w.alloc (.cells #[.int .i64 0, .int .i64 0, .int .i64 0] 43)).cell? ⟨w.heap.size, 0, none⟩ = some (.int .i64 0) := by simp [go_sem]
  have r1 : (w.alloc (.cells #[.int .i64 0, .int .i64 0, .int .i64 0] 43)).cell? ⟨w.heap.size, 1, none⟩ = some (.int .i64 0) := by simp [go_sem]
  have r2 : (w.alloc (.cells #[.int .i64 0, .int .i64 0, .int .i64 0] 43)).cell? ⟨w.heap.size, 2, none⟩ = some (.int .i64 0) := by simp [go_sem]
  have f0 : (w.alloc (.cells #[.int .i64 0, .int .i64 0, .int .i64 0] 43)).frozen? ⟨w.heap.size, 0, none⟩ = false := by simp [go_sem]
  have f1 : (w.alloc (.cells #[.int .i64 0, .int .i64 0, .int .i64 0] 43)).frozen? ⟨w.heap.size, 1, none⟩ = false := by simp [go_sem]
  have f2 : (w.alloc (.cells #[.int .i64 0, .int .i64 0, .int .i64 0] 43)).frozen? ⟨w.heap.size, 2, none⟩ = false := by simp [go_sem]
  have lx : w.heap.size < (w.alloc (.cells #[.int .i64 0, .int .i64 0, .int .i64 0] 43)).heap.size := by simp
  have HB0 := hide (bl_alloc (bl_refl w) (.cells #[.int .i64 0, .int .i64 0, .int .i64 0] 43))
  clear h wa wb
  cases hok : okL L a b
  · have E := hide (lgO_no hok)
    rw [hok] at VL
    clear hok
    go_enter Try.func55, Try.ntmps55
    go_wp2_with fail
    (with_reducible refine VL.out.mono ?_)
    rintro e u1 ⟨rfl, hb⟩
    have r0 := keep_cell hb r0; have r1 := keep_cell hb r1; have r2 := keep_cell hb r2; have f0 := (hb.frozen (p := ⟨w.heap.size, 0, none⟩) lx).trans f0; have f1 := (hb.frozen (p := ⟨w.heap.size, 1, none⟩) lx).trans f1; have f2 := (hb.frozen (p := ⟨w.heap.size, 2, none⟩) lx).trans f2; have lx := Nat.lt_of_lt_of_le lx hb.size
    have hb9 := bl_call hb HB0.out
    clear hb
    go_wp2
    refine bodyPost_ret (v := .tuple #[gv 0 0 0, .bool false]) (by simp [results, Try.results55, go_sem, *]) rfl ⟨by rw [E.out], ?_⟩
    (repeat' (first | with_reducible exact bl_refl _ | with_reducible assumption | with_reducible refine bl_alloc ?_ _ | with_reducible refine bl_set ?_ ?_ _ | with_reducible refine bl_drewN ?_ _ | with_reducible refine bl_drew ?_ | with_reducible refine bl_call (by assumption) ?_))
    (all_goals (first | omega | (simp; done) | (simp; omega)))
  · have hh := hok
    simp only [okL, Bool.and_eq_true] at hh
    obtain ⟨p, q, hp, rfl, hpq, hq, _, _, hnf⟩ := hasL_of hh.2
    have OK := isOk_iff.1 hh.1
    have E := hide (lgO_yes hok hp rfl)
    rw [← stS_min hpq (by omega) hnf] at E
    have HLG := hide (fun (u : World) (hu : TL u A L.length L) => lineGlue_s u A c L hu OK.1 OK.2.1.2 a p q hp hpq hq)
    rw [hok] at VL
    clear hok hh hp OK hnf
    go_enter Try.func55, Try.ntmps55
    go_wp2_with fail
    (with_reducible refine VL.out.mono ?_)
    rintro e u1 ⟨rfl, hb⟩
    have r0 := keep_cell hb r0; have r1 := keep_cell hb r1; have r2 := keep_cell hb r2; have f0 := (hb.frozen (p := ⟨w.heap.size, 0, none⟩) lx).trans f0; have f1 := (hb.frozen (p := ⟨w.heap.size, 1, none⟩) lx).trans f1; have f2 := (hb.frozen (p := ⟨w.heap.size, 2, none⟩) lx).trans f2; have lx := Nat.lt_of_lt_of_le lx hb.size
    have HB1 := hide (bl_call hb HB0.out)
    have HI1 := hide (HI.out.below hb)
    clear hb
    go_wp2_with fail
    (with_reducible refine (HLG.out _ HI1.out).mono ?_)
    rintro e u3 ⟨rfl, hb⟩
    have r0 := keep_cell hb r0; have r1 := keep_cell hb r1; have r2 := keep_cell hb r2; have f0 := (hb.frozen (p := ⟨w.heap.size, 0, none⟩) lx).trans f0; have f1 := (hb.frozen (p := ⟨w.heap.size, 1, none⟩) lx).trans f1; have f2 := (hb.frozen (p := ⟨w.heap.size, 2, none⟩) lx).trans f2; have lx := Nat.lt_of_lt_of_le lx hb.size
    have hb9 := bl_call hb HB1.out
    clear hb
    obtain ⟨z0, hz0⟩ : ∃ z, z = sW L q - sW L (min (stS L p) q) + atW (tg L q) := ⟨_, rfl⟩
    obtain ⟨z1, hz1⟩ : ∃ z, z = sT L q - sT L (min (stS L p) q) := ⟨_, rfl⟩
    obtain ⟨z2, hz2⟩ : ∃ z, z = sS L q - sS L (min (stS L p) q) := ⟨_, rfl⟩
    rw [← hz0, ← hz1, ← hz2] at E ⊢
    clear hz0 hz1 hz2
    go_wp2
    refine bodyPost_ret (v := .tuple #[gv z0 z1 z2, .bool true]) (by simp [results, Try.results55, go_sem, *]) rfl ⟨by rw [E.out], ?_⟩
    (repeat' (first | with_reducible exact bl_refl _ | with_reducible assumption | with_reducible refine bl_alloc ?_ _ | with_reducible refine bl_set ?_ ?_ _ | with_reducible refine bl_drewN ?_ _ | with_reducible refine bl_drew ?_ | with_reducible refine bl_call (by assumption) ?_))
    (all_goals (first | omega | (simp; done) | (simp; omega)))
end Go.Proofs.Ytmncdpiojhgcdaa

/- How a line fits into a width, in the program and in the model. -/
namespace Go.Proofs.Ytmncdpiojhgcdaa
open Go.ChangeShapes Go.WideShapes Go.ChangeAt Go.RowKit
set_option linter.unusedVariables false

/-- What a line shows to its fit: no length over MaxLength. -/
def cl (x : Int) : Int := if x ≤ 10000 then x else 10000
theorem cl_in {x : Int} (h : 0 ≤ x) : 0 ≤ cl x ∧ cl x ≤ 10000 := by unfold cl; split <;> omega
theorem cl_way (x : Int) : (x ≤ 10000 ∧ cl x = x) ∨ (10000 < x ∧ cl x = 10000) := by unfold cl; split <;> omega
set_option maxHeartbeats 2000000 in
theorem clampGlue_s (x y z : Int) (w : World) :
    Calls Try.prog 108 #[gv x y z] w fun e w' => e = .returned (gv (cl x) (cl y) (cl z)) ∧ Below w.heap.size w w' := by
  rcases cl_way x with ⟨h1, e1⟩ | ⟨h1, e1⟩ <;> rcases cl_way y with ⟨h2, e2⟩ | ⟨h2, e2⟩ <;> rcases cl_way z with ⟨h3, e3⟩ | ⟨h3, e3⟩
  all_goals
    rw [e1, e2, e3]
    clear e1 e2 e3
    go_enter Try.func108, Try.ntmps108
    go_wp2
    refine bodyPost_ret (v := _) (by simp [results, Try.results108, go_sem, *]; try rfl) rfl ⟨rfl, ?_⟩
    repeat' (first | with_reducible exact bl_refl _ | with_reducible assumption | with_reducible refine bl_alloc ?_ _ | with_reducible refine bl_set ?_ ?_ _ | with_reducible refine bl_drewN ?_ _ | with_reducible refine bl_drew ?_ | with_reducible refine bl_call (by assumption) ?_)
    all_goals (first | omega | (simp; done) | (simp; omega))
theorem validWidth_ii (h : Int) (w : World) : Calls Try.prog 91 #[.int .i64 h] w fun e w' => e = .returned (.bool (inB h 1 10000)) ∧ w = w' := by
  go_enter Try.func91, Try.ntmps91
  go_wp2_with (go_at_call 113; refine (within_any _ _ _ _).mono ?_; rintro e w' ⟨rfl, rfl⟩)
  go_ret
  exact ⟨rfl, rfl⟩
theorem validWidth_ss (h : Int) (w : World) : Calls Try.prog 61 #[.int .i64 h] w fun e w' => e = .returned (.bool (inB h 1 10000)) ∧ w = w' := by
  go_enter Try.func61, Try.ntmps61
  go_wp2_with (go_at_call 62; refine (inRange_any _ _ _ _).mono ?_; rintro e w' ⟨rfl, rfl⟩)
  go_ret
  exact ⟨rfl, rfl⟩
/-- The fit and the badness of a line. -/
noncomputable def ftL (L : List It) (a b d : Int) : Int × Int := if hasL L a b && inB d 1 10000 then fitOf (cl (lgW L a b)) (cl (lgT L a b)) (cl (lgS L a b)) d else (0, -1)
theorem ftL_no {L : List It} {a b d : Int} (h : (hasL L a b && inB d 1 10000) = false) : ftL L a b d = (0, -1) := by simp [ftL, h]
theorem ftL_yes {L : List It} {a b d : Int} (h : (hasL L a b && inB d 1 10000) = true) : ftL L a b d = fitOf (cl (lgW L a b)) (cl (lgT L a b)) (cl (lgS L a b)) d := by simp only [ftL, h, if_true]
theorem lg_eqs {L : List It} {a : Int} {p q : Nat} (hp : a + 1 = (p : Int)) : lgW L a q = sW L q - sW L (min (fBx L p) q) + atW (tg L q) ∧ lgT L a q = sT L q - sT L (min (fBx L p) q) ∧ lgS L a q = sS L q - sS L (min (fBx L p) q) := by
  unfold lgW lgT lgS stA
  rw [hp]; exact ⟨rfl, rfl, rfl⟩
theorem lg_bd {L : List It} (hall : ∀ i, i < L.length → itOk (tg L i) = true) {p q : Nat} (hq : q < L.length) (m : Nat) (hm : m ≤ q) : (0 ≤ sW L q - sW L m + atW (tg L q)) ∧ (0 ≤ sT L q - sT L m) ∧ (0 ≤ sS L q - sS L m) := by
  have h1 := s_mono hall (a := m) (k := q) hm (by omega)
  have h2 : 0 ≤ atW (tg L q) := by
    rcases iok_iff.1 (hall q hq) with h | h | h <;> (unfold atW; split <;> omega)
  omega
set_option maxRecDepth 8000 in
set_option maxHeartbeats 4000000 in
theorem fit_i (w : World) {B gp g c1 gs gf gb : Nat} (L : List It) (hps : PS w B gp g c1 gs gf gb L) (hall : ∀ i, i < L.length → itOk (tg L i) = true) (h1 : 1 ≤ L.length ∧ L.length ≤ 60) (a b d : Int) (wa : -9223372036854775808 ≤ a ∧ a ≤ 9223372036854775807) (wb : -9223372036854775808 ≤ b ∧ b ≤ 9223372036854775807) :
    Calls Try.prog 103 #[.agg #[.slice (some ⟨g, 0, none⟩) L.length c1, .slice (some ⟨gs, 0, none⟩) (L.length + 1) (L.length + 1), .slice (some ⟨gf, 0, none⟩) (L.length + 1) (L.length + 1), .slice (some ⟨gb, 0, none⟩) (L.length + 1) (L.length + 1)], .int .i64 a, .int .i64 b, .int .i64 d] w fun e w' => e = .returned (.tuple #[.int .i64 (ftL L a b d).1, .int .i64 (ftL L a b d).2]) ∧ Below w.heap.size w w' := by
  have HPS := hide (ps_made hps.row hps.pr)
  have PH := HPS.out.hasLine hall h1 a b wa wb
  have HALL := hide hall
  have HB0 := hide (bl_alloc (bl_refl w) (.cells #[.slice (some ⟨g, 0, none⟩) L.length c1, .slice (some ⟨gs, 0, none⟩) (L.length + 1) (L.length + 1), .slice (some ⟨gf, 0, none⟩) (L.length + 1) (L.length + 1), .slice (some ⟨gb, 0, none⟩) (L.length + 1) (L.length + 1)] 82))
  have k0 := HPS.out.k0; have k1 := HPS.out.k1; have k2 := HPS.out.k2; have k3 := HPS.out.k3
  clear hps wa wb hall
  cases q1 : inB d 1 10000
  · have E := hide (ftL_no (L := L) (a := a) (b := b) (d := d) (by simp [q1]))
    clear PH
    go_enter Try.func103, Try.ntmps103
    go_wp2_with (go_at_call 91; refine (validWidth_ii _ _).mono ?_; rintro e w' ⟨rfl, rfl⟩)
    go_ret2
    exact ⟨by rw [E.out]; rfl, HB0.out⟩
  cases hh : hasL L a b
  · have E := hide (ftL_no (L := L) (a := a) (b := b) (d := d) (by simp [hh]))
    rw [hh] at PH
    have HPH := hide PH
    clear PH hh
    go_enter Try.func103, Try.ntmps103
    go_wp2_with (go_at_call 91; refine (validWidth_ii _ _).mono ?_; rintro e w' ⟨rfl, rfl⟩)
    (with_reducible refine HPH.out.mono ?_)
    rintro e u2 ⟨rfl, hb⟩
    have HB2 := hide (bl_call hb HB0.out)
    clear hb
    go_wp2
    go_ret2
    exact ⟨by rw [E.out]; rfl, HB2.out⟩
  · have E := ftL_yes (L := L) (a := a) (b := b) (d := d) (by simp [hh, q1])
    rw [hh] at PH
    have HPH := hide PH
    obtain ⟨p, q, hp, rfl, hpq, hq, _⟩ := hasL_of hh
    obtain ⟨e1, e2, e3⟩ := lg_eqs (L := L) (q := q) hp
    obtain ⟨b1, b2, b3⟩ := lg_bd (p := p) HALL.out hq (min (fBx L p) q) (Nat.min_le_right _ _)
    rw [e1, e2, e3] at E
    have LG := fun (u : World) (hu : PS u B w.heap.size g c1 gs gf gb L) => hu.lineGlue HALL.out h1 a p q hp (by omega) hq
    obtain ⟨z0, hz0⟩ : ∃ z, z = sW L q - sW L (min (fBx L p) q) + atW (tg L q) := ⟨_, rfl⟩
    obtain ⟨z1, hz1⟩ : ∃ z, z = sT L q - sT L (min (fBx L p) q) := ⟨_, rfl⟩
    obtain ⟨z2, hz2⟩ : ∃ z, z = sS L q - sS L (min (fBx L p) q) := ⟨_, rfl⟩
    rw [← hz0, ← hz1, ← hz2] at E LG
    rw [← hz0] at b1
    rw [← hz1] at b2
    rw [← hz2] at b3
    have HLG := hide LG
    have i1 := cl_in b1
    have i2 := cl_in b2
    have i3 := cl_in b3
    have hd := inB_iff.1 q1
    have FV : fitv (cl z0) (cl z1) (cl z2) d = fitOf (cl z0) (cl z1) (cl z2) d := fitv_yes (by
      rw [Bool.and_eq_true]
      exact ⟨vg_iff.2 ⟨⟨by omega, i1.2⟩, i2, i3⟩, inB_yes (by omega) hd.2⟩)
    have FG := fun (u : World) => FitGlue_i (cl z0) (cl z1) (cl z2) d u
    rw [FV, ← E] at FG
    obtain ⟨R1, hR1⟩ : ∃ R, R = (ftL L a q d).1 := ⟨_, rfl⟩
    obtain ⟨R2, hR2⟩ : ∃ R, R = (ftL L a q d).2 := ⟨_, rfl⟩
    rw [← hR1, ← hR2] at FG ⊢
    clear PH hh E e1 e2 e3 LG hz0 hz1 hz2 hp FV hR1 hR2 hd i1 i2 i3
    rcases cl_way z0 with ⟨g1, e1⟩ | ⟨g1, e1⟩ <;> rcases cl_way z1 with ⟨g2, e2⟩ | ⟨g2, e2⟩ <;> rcases cl_way z2 with ⟨g3, e3⟩ | ⟨g3, e3⟩
    all_goals
      rw [e1, e2, e3] at FG
      have HFG := hide FG
      clear FG e1 e2 e3
      go_enter Try.func103, Try.ntmps103
      go_wp2_with (go_at_call 91; refine (validWidth_ii _ _).mono ?_; rintro e w' ⟨rfl, rfl⟩)
      (with_reducible refine HPH.out.mono ?_)
      rintro e u2 ⟨rfl, hb⟩
      have HB2 := hide (bl_call hb HB0.out)
      have HPS2 := hide (HPS.out.below hb)
      have k0 := keep_cell hb k0
      have k1 := keep_cell hb k1
      have k2 := keep_cell hb k2
      have k3 := keep_cell hb k3
      clear hb
      go_wp2_with fail
      (with_reducible refine (HLG.out _ HPS2.out).mono ?_)
      rintro e u3 ⟨rfl, hb⟩
      have HB3 := hide (bl_alloc (bl_call hb HB2.out) (.cells #[.int .i64 z0, .int .i64 z1, .int .i64 z2] 43))
      clear hb k0 k1 k2 k3
      go_wp2_with fail
      (with_reducible refine (HFG.out _).mono ?_)
      rintro e u4 ⟨rfl, hb⟩
      have HB4 := hide (bl_call hb HB3.out)
      clear hb
      go_wp2
      go_ret2
      exact ⟨rfl, HB4.out⟩
end Go.Proofs.Ytmncdpiojhgcdaa

/- The exact law on Demerits holds at every input: it answers as its model does. No condition. -/
namespace Go.Proofs.Ytmncdpiojhgcdaa
open Go.ChangeShapes Go.WideShapes Go.ChangeAt Go.RowKit
set_option linter.unusedVariables false

def dem (b p : Int) (f : Bool) : Int := (if 0 ≤ p then (1 + b + p) * (1 + b + p) else if -1000 < p then (1 + b) * (1 + b) - p * p else (1 + b) * (1 + b)) + if f then 3000 else 0
def demv (b p : Int) (f : Bool) : Int := if inB b 0 10000 && inB p (-1000) 999 then dem b p f else -1
theorem demv_yes {b p : Int} (f : Bool) (h : 0 ≤ b ∧ b ≤ 10000) (k : -1000 ≤ p ∧ p ≤ 999) : demv b p f = dem b p f := by simp [demv, inB_yes h.1 h.2, inB_yes k.1 k.2]
theorem demv_no {b p : Int} (f : Bool) (h : ¬ ((0 ≤ b ∧ b ≤ 10000) ∧ (-1000 ≤ p ∧ p ≤ 999))) : demv b p f = -1 := by
  unfold demv; rw [if_neg]; simp only [Bool.and_eq_true, inB_iff]; exact h
theorem sq_mono {a b : Int} (h0 : 0 ≤ a) (h : a ≤ b) : a * a ≤ b * b := Int.mul_le_mul h h h0 (by omega)
theorem sq_nn (a : Int) : 0 ≤ a * a := by
  rcases (by omega : 0 ≤ a ∨ a ≤ 0) with h | h
  · exact Int.mul_nonneg h h
  · exact Int.mul_nonneg_of_nonpos_of_nonpos h h

theorem demerits_s (b p : Int) (f : Bool) (w : World) (h0 : 0 ≤ b) (h1 : b ≤ 10000) (p0 : -1000 ≤ p) (p1 : p ≤ 999) :
    Calls Try.prog 109 #[.int .i64 b, .int .i64 p, .bool f] w fun e w' => e = .returned (.int .i64 (dem b p f)) ∧ w = w' := by
  have a0 := sq_nn (1 + b)
  have a1 := sq_mono (a := 1 + b) (b := 10001) (by omega) (by omega)
  have c0 := sq_nn (1 + b + p)
  rcases (by omega : 0 ≤ p ∨ -1000 < p ∧ p < 0 ∨ p = -1000) with q | ⟨q, q'⟩ | rfl
  · have c1 := sq_mono (a := 1 + b + p) (b := 11000) (by omega) (by omega)
    cases f
    · have E := hide (show dem b p false = (1 + b + p) * (1 + b + p) by simp [dem, q])
      go_enter Try.func109, Try.ntmps109
      go_wp2; all_goals (go_ret; exact ⟨int_ret (by rw [E.out]), rfl⟩)
    · have E := hide (show dem b p true = (1 + b + p) * (1 + b + p) + 3000 by simp [dem, q])
      go_enter Try.func109, Try.ntmps109
      go_wp2; all_goals (go_ret; exact ⟨int_ret (by rw [E.out]), rfl⟩)
  · have d0 := sq_nn p
    have d1 := sq_mono (a := -p) (b := 1000) (by omega) (by omega)
    rw [Int.neg_mul_neg] at d1
    cases f
    · have E := hide (show dem b p false = (1 + b) * (1 + b) - p * p by simp [dem, q, show ¬ 0 ≤ p from by omega])
      go_enter Try.func109, Try.ntmps109
      go_wp2; all_goals (go_ret; exact ⟨int_ret (by rw [E.out]), rfl⟩)
    · have E := hide (show dem b p true = (1 + b) * (1 + b) - p * p + 3000 by simp [dem, q, show ¬ 0 ≤ p from by omega])
      go_enter Try.func109, Try.ntmps109
      go_wp2; all_goals (go_ret; exact ⟨int_ret (by rw [E.out]), rfl⟩)
  · cases f
    · have E := hide (show dem b (-1000) false = (1 + b) * (1 + b) by simp [dem])
      go_enter Try.func109, Try.ntmps109
      go_wp2; all_goals (go_ret; exact ⟨int_ret (by rw [E.out]), rfl⟩)
    · have E := hide (show dem b (-1000) true = (1 + b) * (1 + b) + 3000 by simp [dem])
      go_enter Try.func109, Try.ntmps109
      go_wp2; all_goals (go_ret; exact ⟨int_ret (by rw [E.out]), rfl⟩)


theorem Demerits_i (b p : Int) (f : Bool) (w : World) :
    Calls Try.prog 115 #[.int .i64 b, .int .i64 p, .bool f] w fun e w' => e = .returned (.int .i64 (demv b p f)) ∧ w = w' := by
  by_cases hv : (0 ≤ b ∧ b ≤ 10000) ∧ (-1000 ≤ p ∧ p ≤ 999)
  · obtain ⟨⟨h0, h1⟩, p0, p1⟩ := hv
    have q1 := inB_yes h0 h1
    have q2 := inB_yes p0 p1
    have a0 := sq_nn (1 + b)
    have a1 := sq_mono (a := 1 + b) (b := 10001) (by omega) (by omega)
    have c0 := sq_nn (1 + b + p)
    have V := hide (demv_yes f ⟨h0, h1⟩ ⟨p0, p1⟩)
    rcases (by omega : 0 ≤ p ∨ -1000 < p ∧ p < 0 ∨ p = -1000) with q | ⟨q, q'⟩ | rfl
    · have c1 := sq_mono (a := 1 + b + p) (b := 11000) (by omega) (by omega)
      cases f
      · have E := hide (V.out.trans (show dem b p false = (1 + b + p) * (1 + b + p) by simp [dem, q]))
        go_enter Try.func115, Try.ntmps115
        go_wp2_with (go_at_call 113; refine (within_any _ _ _ _).mono ?_; rintro e w' ⟨rfl, rfl⟩)
        go_ret
        exact ⟨int_ret (by rw [E.out]), rfl⟩
      · have E := hide (V.out.trans (show dem b p true = (1 + b + p) * (1 + b + p) + 3000 by simp [dem, q]))
        go_enter Try.func115, Try.ntmps115
        go_wp2_with (go_at_call 113; refine (within_any _ _ _ _).mono ?_; rintro e w' ⟨rfl, rfl⟩)
        go_ret
        exact ⟨int_ret (by rw [E.out]), rfl⟩
    · have d0 := sq_nn p
      have d1 := sq_mono (a := -p) (b := 1000) (by omega) (by omega)
      rw [Int.neg_mul_neg] at d1
      cases f
      · have E := hide (V.out.trans (show dem b p false = (1 + b) * (1 + b) - p * p by simp [dem, q, show ¬ 0 ≤ p from by omega]))
        go_enter Try.func115, Try.ntmps115
        go_wp2_with (go_at_call 113; refine (within_any _ _ _ _).mono ?_; rintro e w' ⟨rfl, rfl⟩)
        go_ret
        exact ⟨int_ret (by rw [E.out]), rfl⟩
      · have E := hide (V.out.trans (show dem b p true = (1 + b) * (1 + b) - p * p + 3000 by simp [dem, q, show ¬ 0 ≤ p from by omega]))
        go_enter Try.func115, Try.ntmps115
        go_wp2_with (go_at_call 113; refine (within_any _ _ _ _).mono ?_; rintro e w' ⟨rfl, rfl⟩)
        go_ret
        exact ⟨int_ret (by rw [E.out]), rfl⟩
    · cases f
      · have E := hide (V.out.trans (show dem b (-1000) false = (1 + b) * (1 + b) by simp [dem]))
        go_enter Try.func115, Try.ntmps115
        go_wp2_with (go_at_call 113; refine (within_any _ _ _ _).mono ?_; rintro e w' ⟨rfl, rfl⟩)
        go_ret
        exact ⟨int_ret (by rw [E.out]), rfl⟩
      · have E := hide (V.out.trans (show dem b (-1000) true = (1 + b) * (1 + b) + 3000 by simp [dem]))
        go_enter Try.func115, Try.ntmps115
        go_wp2_with (go_at_call 113; refine (within_any _ _ _ _).mono ?_; rintro e w' ⟨rfl, rfl⟩)
        go_ret
        exact ⟨int_ret (by rw [E.out]), rfl⟩
  · have V := hide (demv_no f hv)
    cases q1 : inB b 0 10000 <;> cases q2 : inB p (-1000) 999
    all_goals first | (exfalso; exact hv ⟨inB_iff.1 (by assumption), inB_iff.1 (by assumption)⟩) | skip
    all_goals
      clear hv
      go_enter Try.func115, Try.ntmps115
      go_wp2_with (go_at_call 113; refine (within_any _ _ _ _).mono ?_; rintro e w' ⟨rfl, rfl⟩)
      go_ret
      exact ⟨int_ret (by rw [V.out]), rfl⟩

end Go.Proofs.Ytmncdpiojhgcdaa

/- The penalty at the end of a line, in the program. -/
namespace Go.Proofs.Ytmncdpiojhgcdaa
open Go.ChangeShapes Go.WideShapes Go.ChangeAt Go.RowKit
set_option linter.unusedVariables false

/-- What a penalty shows: all zero for another item. -/
def pnW (x : It) : Int := if x.k = 3 then x.w else 0
def pnP (x : It) : Int := if x.k = 3 then x.p else 0
def pnF (x : It) : Bool := if x.k = 3 then x.f else false
theorem part_kind4 (x : It) (hx : KOk x) : ∃ T y, part x = .iface T y ∧ ((T = 166 ∧ (∃ a, y = bpv a) ∧ pnW x = 0 ∧ pnP x = 0 ∧ pnF x = false) ∨ (T = 171 ∧ (∃ a b c, y = gpv a b c) ∧ pnW x = 0 ∧ pnP x = 0 ∧ pnF x = false) ∨ (T = 134 ∧ y = ppv (pnW x) (pnP x) (pnF x))) := by
  obtain ⟨k, b, c, d, e, f⟩ := x
  rcases hx with h | h | h
  · simp only at h
    subst h
    exact ⟨166, bpv b, by simp [part], .inl ⟨rfl, ⟨_, rfl⟩, by simp [pnW], by simp [pnP], by simp [pnF]⟩⟩
  · simp only at h
    subst h
    exact ⟨171, gpv b c d, by simp [part], .inr (.inl ⟨rfl, ⟨_, _, _, rfl⟩, by simp [pnW], by simp [pnP], by simp [pnF]⟩)⟩
  · simp only at h
    subst h
    exact ⟨134, ppv b e f, by simp [part], .inr (.inr ⟨rfl, by simp [pnW, pnP, pnF]⟩)⟩
/-- The penalty at a place; zero ahead of the paragraph. -/
def pa (L : List It) (a : Int) : Int × Int × Bool := if a < 0 then (0, 0, false) else (pnW (tg L a.toNat), pnP (tg L a.toNat), pnF (tg L a.toNat))
set_option maxRecDepth 8000 in
set_option maxHeartbeats 2000000 in
theorem penaltyAt_i (w : World) {B g c1 : Nat} (v1 v2 v3 : Value) (L : List It) (hall : ∀ i, i < L.length → itOk (tg L i) = true) (hl : L.length ≤ 60) (hrow : w.ownsRow B 105 1 (.slice (some ⟨g, 0, none⟩) L.length c1) L.length (L.map part)) (a : Int) (ha : a < (L.length : Int)) :
    Calls Try.prog 114 #[.agg #[.slice (some ⟨g, 0, none⟩) L.length c1, v1, v2, v3], .int .i64 a] w fun e w' => e = .returned (ppv (pa L a).1 (pa L a).2.1 (pa L a).2.2) ∧ Below w.heap.size w w' := by
  have t1 : ∀ (a : Int) (W : World), (Instr.typeAssert (.iface 166 (bpv a)) 105 134 true).run Try.prog W = .ok (.tuple #[ppv 0 0 false, .bool false]) W := fun _ _ => by kernel_rfl
  have t2 : ∀ (a b c : Int) (W : World), (Instr.typeAssert (.iface 171 (gpv a b c)) 105 134 true).run Try.prog W = .ok (.tuple #[ppv 0 0 false, .bool false]) W := fun _ _ _ _ => by kernel_rfl
  have t3 : ∀ (a p : Int) (f : Bool) (W : World), (Instr.typeAssert (.iface 134 (ppv a p f)) 105 134 true).run Try.prog W = .ok (.tuple #[ppv a p f, .bool true]) W := fun _ _ _ _ => by kernel_rfl
  rcases (by omega : a < 0 ∨ 0 ≤ a) with h | h
  · rw [show pa L a = (0, 0, false) by simp [pa, h]]
    go_enter Try.func114, Try.ntmps114
    go_wp2
    refine bodyPost_ret (v := ppv 0 0 false) (by simp [results, Try.results114, go_sem, *]) rfl ⟨rfl, ?_⟩
    (repeat' (first | with_reducible exact bl_refl _ | with_reducible assumption | with_reducible refine bl_alloc ?_ _ | with_reducible refine bl_set ?_ ?_ _ | with_reducible refine bl_drewN ?_ _ | with_reducible refine bl_drew ?_ | with_reducible refine bl_call (by assumption) ?_))
    (all_goals (first | omega | (simp; done) | (simp; omega)))
  · obtain ⟨m, rfl⟩ : ∃ m : Nat, a = (m : Int) := ⟨a.toNat, by omega⟩
    have hm : m < L.length := by omega
    rw [show pa L m = (pnW (tg L m), pnP (tg L m), pnF (tg L m)) by unfold pa; rw [if_neg (by omega)]; rfl]
    have d1 := World.ownsRow.cellAt hrow m (by omega)
    obtain ⟨pT, py, hpart, hkind⟩ := part_kind4 (tg L m) (KOk.of (hall m hm))
    rw [List.getElem?_map, tg_get hm, Option.map_some, hpart] at d1
    obtain ⟨z0, hz0⟩ : ∃ z, z = pnW (tg L m) := ⟨_, rfl⟩
    obtain ⟨z1, hz1⟩ : ∃ z, z = pnP (tg L m) := ⟨_, rfl⟩
    obtain ⟨z2, hz2⟩ : ∃ z, z = pnF (tg L m) := ⟨_, rfl⟩
    rw [← hz0, ← hz1, ← hz2] at hkind ⊢
    have d2 : ((w.alloc (.cells #[.slice (some ⟨g, 0, none⟩) L.length c1, v1, v2, v3] 82)).alloc (.cells #[.int .i64 0, .int .i64 0, .bool false] 134)).cell? ⟨g, m, none⟩ = _ := keep_alloc (keep_alloc d1 _) _
    clear hrow d1 hpart hz0 hz1 hz2 hall
    rcases hkind with ⟨rfl, ⟨x, rfl⟩, rfl, rfl, rfl⟩ | ⟨rfl, ⟨x, y, z, rfl⟩, rfl, rfl, rfl⟩ | ⟨rfl, rfl⟩
    · go_enter Try.func114, Try.ntmps114
      go_wp2
      refine bodyPost_ret (v := ppv 0 0 false) (by simp [results, Try.results114, go_sem, *]) rfl ⟨rfl, ?_⟩
      (repeat' (first | with_reducible exact bl_refl _ | with_reducible assumption | with_reducible refine bl_alloc ?_ _ | with_reducible refine bl_set ?_ ?_ _ | with_reducible refine bl_drewN ?_ _ | with_reducible refine bl_drew ?_ | with_reducible refine bl_call (by assumption) ?_))
      (all_goals (first | omega | (simp; done) | (simp; omega)))
    · go_enter Try.func114, Try.ntmps114
      go_wp2
      refine bodyPost_ret (v := ppv 0 0 false) (by simp [results, Try.results114, go_sem, *]) rfl ⟨rfl, ?_⟩
      (repeat' (first | with_reducible exact bl_refl _ | with_reducible assumption | with_reducible refine bl_alloc ?_ _ | with_reducible refine bl_set ?_ ?_ _ | with_reducible refine bl_drewN ?_ _ | with_reducible refine bl_drew ?_ | with_reducible refine bl_call (by assumption) ?_))
      (all_goals (first | omega | (simp; done) | (simp; omega)))
    · go_enter Try.func114, Try.ntmps114
      go_wp2
      refine bodyPost_ret (v := ppv z0 z1 z2) (by simp [results, Try.results114, go_sem, *]) rfl ⟨rfl, ?_⟩
      (repeat' (first | with_reducible exact bl_refl _ | with_reducible assumption | with_reducible refine bl_alloc ?_ _ | with_reducible refine bl_set ?_ ?_ _ | with_reducible refine bl_drewN ?_ _ | with_reducible refine bl_drew ?_ | with_reducible refine bl_call (by assumption) ?_))
      (all_goals (first | omega | (simp; done) | (simp; omega)))
end Go.Proofs.Ytmncdpiojhgcdaa
