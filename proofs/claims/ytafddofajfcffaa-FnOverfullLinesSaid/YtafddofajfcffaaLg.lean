/- Where a line starts and its length, in the program. -/
import Derived.Test.YtafddofajfcffaaPs
namespace Go.Proofs.Ytafddofajfcffaa
open Go.ChangeShapes Go.WideShapes Go.ChangeAt Go.RowKit
set_option linter.unusedVariables false
set_option linter.unusedSimpArgs false

set_option maxRecDepth 8000 in
set_option maxHeartbeats 2000000 in
theorem start_i (w : World) {B gb N c3 : Nat} (v0 v1 v2 : Value) (L : List It) (hl : L.length ≤ 60) (hN : N = L.length + 1) (hrow : w.ownsRow B 3 1 (.slice (some ⟨gb, 0, none⟩) N c3) N ((XL L L.length).map (Value.int .i64))) (a : Int) (p q : Nat) (hp : a + 1 = (p : Int)) (hpl : p ≤ L.length) (hq : q ≤ L.length) :
    Calls Try.prog 121 #[.agg #[v0, v1, v2, .slice (some ⟨gb, 0, none⟩) N c3], .int .i64 a, .int .i64 q] w fun e w' => e = .returned (.int .i64 ((min (fBx L p) q : Nat) : Int)) ∧ Below w.heap.size w w' := by
  have k3 : (w.alloc (.cells #[v0, v1, v2, .slice (some ⟨gb, 0, none⟩) N c3] 92)).cell? ⟨w.heap.size, 3, none⟩ = some (.slice (some ⟨gb, 0, none⟩) N c3) := by simp [go_sem]
  have f0 := int_at hrow (by rw [XL_len, hN]) (j := p) (by omega)
  rw [XL_get (by omega), if_pos (by omega)] at f0
  have f1 : (w.alloc (.cells #[v0, v1, v2, .slice (some ⟨gb, 0, none⟩) N c3] 92)).cell? ⟨gb, p, none⟩ = _ := keep_alloc f0 _
  rw [show nxB L (L.length - p) = fBx L p from rfl] at f1
  obtain ⟨x, hx⟩ : ∃ x, x = fBx L p := ⟨_, rfl⟩
  rw [← hx] at f1 ⊢
  have wp : IntKind.i64.wrap (a + 1) = (p : Int) := by rw [hp]; exact IntWalk.i64_in _ (by omega)
  have hp0 : (0 : Int) ≤ (p : Int) := by omega
  have hp1 : (p : Int) < (N : Int) := by omega
  clear f0 hrow hx hp hN
  rcases (by omega : (x ≤ q ∧ min x q = x) ∨ (q < x ∧ min x q = q)) with ⟨h1, h2⟩ | ⟨h1, h2⟩
  all_goals
    rw [h2]
    clear h2
    have h3 : (x : Int) ≤ (q : Int) ∨ (q : Int) < (x : Int) := by omega
    have h4 := hide h3
    clear h3
    go_enter Try.func121, Try.ntmps121
    go_wp2
    go_ret
    exact ⟨rfl, bl_alloc (bl_refl _) _⟩
theorem box_atEnd (a : Int) (w : World) : Calls Try.prog 183 #[bpv a] w fun e w' => e = .returned (gv 0 0 0) ∧ Below w.heap.size w w' := by
  go_enter Try.func183, Try.ntmps183
  go_wp2
  refine bodyPost_ret (v := gv 0 0 0) (by simp [results, Try.results183, go_sem, *]) rfl ⟨rfl, ?_⟩
  repeat' (first | with_reducible exact bl_refl _ | with_reducible assumption | with_reducible refine bl_alloc ?_ _ | with_reducible refine bl_set ?_ ?_ _ | with_reducible refine bl_drewN ?_ _ | with_reducible refine bl_drew ?_ | with_reducible refine bl_call (by assumption) ?_)
  all_goals (first | omega | (simp; done) | (simp; omega))
theorem glue_atEnd (a b c : Int) (w : World) : Calls Try.prog 189 #[gpv a b c] w fun e w' => e = .returned (gv 0 0 0) ∧ Below w.heap.size w w' := by
  go_enter Try.func189, Try.ntmps189
  go_wp2
  refine bodyPost_ret (v := gv 0 0 0) (by simp [results, Try.results189, go_sem, *]) rfl ⟨rfl, ?_⟩
  repeat' (first | with_reducible exact bl_refl _ | with_reducible assumption | with_reducible refine bl_alloc ?_ _ | with_reducible refine bl_set ?_ ?_ _ | with_reducible refine bl_drewN ?_ _ | with_reducible refine bl_drew ?_ | with_reducible refine bl_call (by assumption) ?_)
  all_goals (first | omega | (simp; done) | (simp; omega))
theorem pen_atEnd (a p : Int) (f : Bool) (w : World) : Calls Try.prog 177 #[ppv a p f] w fun e w' => e = .returned (gv a 0 0) ∧ Below w.heap.size w w' := by
  go_enter Try.func177, Try.ntmps177
  go_wp2
  refine bodyPost_ret (v := gv a 0 0) (by simp [results, Try.results177, go_sem, *]) rfl ⟨rfl, ?_⟩
  repeat' (first | with_reducible exact bl_refl _ | with_reducible assumption | with_reducible refine bl_alloc ?_ _ | with_reducible refine bl_set ?_ ?_ _ | with_reducible refine bl_drewN ?_ _ | with_reducible refine bl_drew ?_ | with_reducible refine bl_call (by assumption) ?_)
  all_goals (first | omega | (simp; done) | (simp; omega))
theorem part_kind3 (x : It) (hx : KOk x) : ∃ T y, part x = .iface T y ∧ ((T = 175 ∧ (∃ a, y = bpv a) ∧ atW x = 0) ∨ (T = 182 ∧ (∃ a b c, y = gpv a b c) ∧ atW x = 0) ∨ (T = 164 ∧ ∃ a p f, y = ppv a p f ∧ atW x = a)) := by
  obtain ⟨k, b, c, d, e, f⟩ := x
  rcases hx with h | h | h
  · simp only at h
    subst h
    exact ⟨175, bpv b, by simp [part], .inl ⟨rfl, ⟨_, rfl⟩, by simp [atW]⟩⟩
  · simp only at h
    subst h
    exact ⟨182, gpv b c d, by simp [part], .inr (.inl ⟨rfl, ⟨_, _, _, rfl⟩, by simp [atW]⟩)⟩
  · simp only at h
    subst h
    exact ⟨164, ppv b e f, by simp [part], .inr (.inr ⟨rfl, _, _, _, rfl, by simp [atW]⟩)⟩
theorem keep_far3 {w : World} {r : Nat} {p : Addr} {v x y z : Value} (h : w.cell? p = some v) (hne : p.block ≠ r) : (((w.setCell ⟨r, 0, none⟩ x).setCell ⟨r, 1, none⟩ y).setCell ⟨r, 2, none⟩ z).cell? p = some v := by
  rw [World.cell?_setCell_far _ _ _ _ (fun e => hne e.symm), World.cell?_setCell_far _ _ _ _ (fun e => hne e.symm), World.cell?_setCell_far _ _ _ _ (fun e => hne e.symm)]
  exact h
set_option maxRecDepth 8000 in
set_option maxHeartbeats 4000000 in
theorem lineGlue_i (w : World) {B g c1 gs gb N : Nat} (v2 : Value) (L : List It) (hall : ∀ i, i < L.length → itOk (tg L i) = true) (hl : L.length ≤ 60) (hN : N = L.length + 1) (hrow : w.ownsRow B 132 1 (.slice (some ⟨g, 0, none⟩) L.length c1) L.length (L.map part)) (hsu : w.ownsRow B 70 3 (.slice (some ⟨gs, 0, none⟩) N N) N ((SL L L.length).flatMap Rec.cells)) (hbo : w.ownsRow B 3 1 (.slice (some ⟨gb, 0, none⟩) N N) N ((XL L L.length).map (Value.int .i64))) (a : Int) (p q : Nat) (hp : a + 1 = (p : Int)) (hpl : p ≤ L.length) (hq : q < L.length) :
    Calls Try.prog 112 #[.agg #[.slice (some ⟨g, 0, none⟩) L.length c1, .slice (some ⟨gs, 0, none⟩) N N, v2, .slice (some ⟨gb, 0, none⟩) N N], .int .i64 a, .int .i64 q] w fun e w' => e = .returned (gv (sW L q - sW L (min (fBx L p) q) + atW (tg L q)) (sT L q - sT L (min (fBx L p) q)) (sS L q - sS L (min (fBx L p) q))) ∧ Below w.heap.size w w' := by
  have hmb : ∀ (v : Value) (W : World), (method 300 175 v "loop.example/typesetting/impl.atEnd").run Try.prog W = .ok (183, v) W := fun _ _ => by kernel_rfl
  have hmg : ∀ (v : Value) (W : World), (method 300 182 v "loop.example/typesetting/impl.atEnd").run Try.prog W = .ok (189, v) W := fun _ _ => by kernel_rfl
  have hmp : ∀ (v : Value) (W : World), (method 300 164 v "loop.example/typesetting/impl.atEnd").run Try.prog W = .ok (177, v) W := fun _ _ => by kernel_rfl
  have HST := hide (fun (u : World) (hb : Below w.heap.size w u) (x0 x1 x2 : Value) => start_i u x0 x1 x2 L hl hN (own_below hbo hb) a p q hp hpl (by omega))
  have bq := s_bd hall (k := q) (by omega)
  have hsl : min (fBx L p) q ≤ q := Nat.min_le_right _ _
  have bs := s_bd hall (k := min (fBx L p) q) (by omega)
  have C := fun (j i : Nat) (hj : j < N) (hi : i < 3) => row3_at hsu (by rw [SL_len, hN]) hj hi
  have G := fun (j : Nat) (hj : j ≤ L.length) => show tg (SL L L.length) j = gl3 L j by
    have := SL_get (L := L) (k := L.length) hj
    rw [if_pos hj] at this
    unfold tg List.getD
    rw [this]; rfl
  have a0 : w.cell? ⟨gs, q * 3, none⟩ = some (.int .i64 (sW L q)) := by have := C q 0 (by omega) (by omega); rw [G q (by omega)] at this; exact this
  have a1 : w.cell? ⟨gs, q * 3 + 1, none⟩ = some (.int .i64 (sT L q)) := by have := C q 1 (by omega) (by omega); rw [G q (by omega)] at this; exact this
  have a2 : w.cell? ⟨gs, q * 3 + 2, none⟩ = some (.int .i64 (sS L q)) := by have := C q 2 (by omega) (by omega); rw [G q (by omega)] at this; exact this
  obtain ⟨s, hs⟩ : ∃ s, s = min (fBx L p) q := ⟨_, rfl⟩
  rw [← hs] at hsl bs HST ⊢
  have b0 : w.cell? ⟨gs, s * 3, none⟩ = some (.int .i64 (sW L s)) := by have := C s 0 (by omega) (by omega); rw [G s (by omega)] at this; exact this
  have b1 : w.cell? ⟨gs, s * 3 + 1, none⟩ = some (.int .i64 (sT L s)) := by have := C s 1 (by omega) (by omega); rw [G s (by omega)] at this; exact this
  have b2 : w.cell? ⟨gs, s * 3 + 2, none⟩ = some (.int .i64 (sS L s)) := by have := C s 2 (by omega) (by omega); rw [G s (by omega)] at this; exact this
  have e0 := World.ownsRow.cellAt hrow q (by omega)
  obtain ⟨pT, py, hpart, hkind⟩ := part_kind3 (tg L q) (KOk.of (hall q hq))
  have ab : 0 ≤ atW (tg L q) ∧ atW (tg L q) ≤ 1000 := by
    rcases iok_iff.1 (hall q hq) with h | h | h <;> (unfold atW; split <;> omega)
  rw [List.getElem?_map, tg_get hq, Option.map_some, hpart] at e0
  obtain ⟨x0, hx0⟩ : ∃ x, x = sW L q := ⟨_, rfl⟩
  obtain ⟨x1, hx1⟩ : ∃ x, x = sT L q := ⟨_, rfl⟩
  obtain ⟨x2, hx2⟩ : ∃ x, x = sS L q := ⟨_, rfl⟩
  obtain ⟨y0, hy0⟩ : ∃ x, x = sW L s := ⟨_, rfl⟩
  obtain ⟨y1, hy1⟩ : ∃ x, x = sT L s := ⟨_, rfl⟩
  obtain ⟨y2, hy2⟩ : ∃ x, x = sS L s := ⟨_, rfl⟩
  obtain ⟨z, hz⟩ : ∃ x, x = atW (tg L q) := ⟨_, rfl⟩
  rw [← hx0, ← hy0, ← hx1, ← hy1, ← hx2, ← hy2, ← hz]
  rw [← hx0, ← hx1, ← hx2] at bq
  rw [← hy0, ← hy1, ← hy2] at bs
  rw [← hx0] at a0
  rw [← hx1] at a1
  rw [← hx2] at a2
  rw [← hy0] at b0
  rw [← hy1] at b1
  rw [← hy2] at b2
  rw [← hz] at hkind ab
  have HK := hide hkind
  obtain ⟨⟨_, _⟩, ⟨_, _⟩, ⟨_, _⟩⟩ := bq
  obtain ⟨⟨_, _⟩, ⟨_, _⟩, ⟨_, _⟩⟩ := bs
  have k0 : ((w.alloc (.cells #[.slice (some ⟨g, 0, none⟩) L.length c1, .slice (some ⟨gs, 0, none⟩) N N, v2, .slice (some ⟨gb, 0, none⟩) N N] 92)).alloc (.cells #[.int .i64 0, .int .i64 0, .int .i64 0] 70)).cell? ⟨w.heap.size, 0, none⟩ = some (.slice (some ⟨g, 0, none⟩) L.length c1) := by simp [go_sem]
  have k1 : ((w.alloc (.cells #[.slice (some ⟨g, 0, none⟩) L.length c1, .slice (some ⟨gs, 0, none⟩) N N, v2, .slice (some ⟨gb, 0, none⟩) N N] 92)).alloc (.cells #[.int .i64 0, .int .i64 0, .int .i64 0] 70)).cell? ⟨w.heap.size, 1, none⟩ = some (.slice (some ⟨gs, 0, none⟩) N N) := by simp [go_sem]
  have k2 : ((w.alloc (.cells #[.slice (some ⟨g, 0, none⟩) L.length c1, .slice (some ⟨gs, 0, none⟩) N N, v2, .slice (some ⟨gb, 0, none⟩) N N] 92)).alloc (.cells #[.int .i64 0, .int .i64 0, .int .i64 0] 70)).cell? ⟨w.heap.size, 2, none⟩ = some v2 := by simp [go_sem]
  have k3 : ((w.alloc (.cells #[.slice (some ⟨g, 0, none⟩) L.length c1, .slice (some ⟨gs, 0, none⟩) N N, v2, .slice (some ⟨gb, 0, none⟩) N N] 92)).alloc (.cells #[.int .i64 0, .int .i64 0, .int .i64 0] 70)).cell? ⟨w.heap.size, 3, none⟩ = some (.slice (some ⟨gb, 0, none⟩) N N) := by simp [go_sem]
  have a0 : ((w.alloc (.cells #[.slice (some ⟨g, 0, none⟩) L.length c1, .slice (some ⟨gs, 0, none⟩) N N, v2, .slice (some ⟨gb, 0, none⟩) N N] 92)).alloc (.cells #[.int .i64 0, .int .i64 0, .int .i64 0] 70)).cell? ⟨gs, q * 3, none⟩ = _ := keep_alloc (keep_alloc a0 _) _
  have a1 : ((w.alloc (.cells #[.slice (some ⟨g, 0, none⟩) L.length c1, .slice (some ⟨gs, 0, none⟩) N N, v2, .slice (some ⟨gb, 0, none⟩) N N] 92)).alloc (.cells #[.int .i64 0, .int .i64 0, .int .i64 0] 70)).cell? ⟨gs, q * 3 + 1, none⟩ = _ := keep_alloc (keep_alloc a1 _) _
  have a2 : ((w.alloc (.cells #[.slice (some ⟨g, 0, none⟩) L.length c1, .slice (some ⟨gs, 0, none⟩) N N, v2, .slice (some ⟨gb, 0, none⟩) N N] 92)).alloc (.cells #[.int .i64 0, .int .i64 0, .int .i64 0] 70)).cell? ⟨gs, q * 3 + 2, none⟩ = _ := keep_alloc (keep_alloc a2 _) _
  have b0 : ((w.alloc (.cells #[.slice (some ⟨g, 0, none⟩) L.length c1, .slice (some ⟨gs, 0, none⟩) N N, v2, .slice (some ⟨gb, 0, none⟩) N N] 92)).alloc (.cells #[.int .i64 0, .int .i64 0, .int .i64 0] 70)).cell? ⟨gs, s * 3, none⟩ = _ := keep_alloc (keep_alloc b0 _) _
  have b1 : ((w.alloc (.cells #[.slice (some ⟨g, 0, none⟩) L.length c1, .slice (some ⟨gs, 0, none⟩) N N, v2, .slice (some ⟨gb, 0, none⟩) N N] 92)).alloc (.cells #[.int .i64 0, .int .i64 0, .int .i64 0] 70)).cell? ⟨gs, s * 3 + 1, none⟩ = _ := keep_alloc (keep_alloc b1 _) _
  have b2 : ((w.alloc (.cells #[.slice (some ⟨g, 0, none⟩) L.length c1, .slice (some ⟨gs, 0, none⟩) N N, v2, .slice (some ⟨gb, 0, none⟩) N N] 92)).alloc (.cells #[.int .i64 0, .int .i64 0, .int .i64 0] 70)).cell? ⟨gs, s * 3 + 2, none⟩ = _ := keep_alloc (keep_alloc b2 _) _
  have e0 : ((w.alloc (.cells #[.slice (some ⟨g, 0, none⟩) L.length c1, .slice (some ⟨gs, 0, none⟩) N N, v2, .slice (some ⟨gb, 0, none⟩) N N] 92)).alloc (.cells #[.int .i64 0, .int .i64 0, .int .i64 0] 70)).cell? ⟨g, q, none⟩ = _ := keep_alloc (keep_alloc e0 _) _
  have r0 : ((w.alloc (.cells #[.slice (some ⟨g, 0, none⟩) L.length c1, .slice (some ⟨gs, 0, none⟩) N N, v2, .slice (some ⟨gb, 0, none⟩) N N] 92)).alloc (.cells #[.int .i64 0, .int .i64 0, .int .i64 0] 70)).cell? ⟨w.heap.size + 1, 0, none⟩ = some (.int .i64 0) := by simp [go_sem]
  have r1 : ((w.alloc (.cells #[.slice (some ⟨g, 0, none⟩) L.length c1, .slice (some ⟨gs, 0, none⟩) N N, v2, .slice (some ⟨gb, 0, none⟩) N N] 92)).alloc (.cells #[.int .i64 0, .int .i64 0, .int .i64 0] 70)).cell? ⟨w.heap.size + 1, 1, none⟩ = some (.int .i64 0) := by simp [go_sem]
  have r2 : ((w.alloc (.cells #[.slice (some ⟨g, 0, none⟩) L.length c1, .slice (some ⟨gs, 0, none⟩) N N, v2, .slice (some ⟨gb, 0, none⟩) N N] 92)).alloc (.cells #[.int .i64 0, .int .i64 0, .int .i64 0] 70)).cell? ⟨w.heap.size + 1, 2, none⟩ = some (.int .i64 0) := by simp [go_sem]
  have f0 : ((w.alloc (.cells #[.slice (some ⟨g, 0, none⟩) L.length c1, .slice (some ⟨gs, 0, none⟩) N N, v2, .slice (some ⟨gb, 0, none⟩) N N] 92)).alloc (.cells #[.int .i64 0, .int .i64 0, .int .i64 0] 70)).frozen? ⟨w.heap.size + 1, 0, none⟩ = false := by simp [go_sem]
  have f1 : ((w.alloc (.cells #[.slice (some ⟨g, 0, none⟩) L.length c1, .slice (some ⟨gs, 0, none⟩) N N, v2, .slice (some ⟨gb, 0, none⟩) N N] 92)).alloc (.cells #[.int .i64 0, .int .i64 0, .int .i64 0] 70)).frozen? ⟨w.heap.size + 1, 1, none⟩ = false := by simp [go_sem]
  have f2 : ((w.alloc (.cells #[.slice (some ⟨g, 0, none⟩) L.length c1, .slice (some ⟨gs, 0, none⟩) N N, v2, .slice (some ⟨gb, 0, none⟩) N N] 92)).alloc (.cells #[.int .i64 0, .int .i64 0, .int .i64 0] 70)).frozen? ⟨w.heap.size + 1, 2, none⟩ = false := by simp [go_sem]
  have hz2 : ((w.alloc (.cells #[.slice (some ⟨g, 0, none⟩) L.length c1, .slice (some ⟨gs, 0, none⟩) N N, v2, .slice (some ⟨gb, 0, none⟩) N N] 92)).alloc (.cells #[.int .i64 0, .int .i64 0, .int .i64 0] 70)).heap.size = w.heap.size + 2 := by simp
  have hB2 := bl_alloc (bl_alloc (bl_refl w) (.cells #[.slice (some ⟨g, 0, none⟩) L.length c1, .slice (some ⟨gs, 0, none⟩) N N, v2, .slice (some ⟨gb, 0, none⟩) N N] 92)) (.cells #[.int .i64 0, .int .i64 0, .int .i64 0] 70)
  have i1 : (q : Int) < (N : Int) := by omega
  have i2 : (s : Int) < (N : Int) := by omega
  have i3 : (q : Int) < (L.length : Int) := by omega
  have i4 : (0 : Int) ≤ (q : Int) := by omega
  have i5 : (0 : Int) ≤ (s : Int) := by omega
  have HM := hide (minus_big x0 x1 x2 y0 y1 y2)
  have hgl := (World.ownsRow.lt hrow g rfl).2
  clear hrow hsu hbo C G hs hpart hkind hx0 hx1 hx2 hy0 hy1 hy2 hz hN hp hpl hall
  go_enter Try.func112, Try.ntmps112
  go_upto_region 1 with fail
  go_cut [7] from 7 to 21 (fun t wx => ∃ r, t = .pointer (some ⟨r, 0, none⟩) ∧ w.heap.size + 2 ≤ r ∧ wx.cell? ⟨r, 0, none⟩ = some (.int .i64 (x0 - y0)) ∧ wx.cell? ⟨r, 1, none⟩ = some (.int .i64 (x1 - y1)) ∧ wx.cell? ⟨r, 2, none⟩ = some (.int .i64 (x2 - y2)) ∧ Below ((w.alloc (.cells #[.slice (some ⟨g, 0, none⟩) L.length c1, .slice (some ⟨gs, 0, none⟩) N N, v2, .slice (some ⟨gb, 0, none⟩) N N] 92)).alloc (.cells #[.int .i64 0, .int .i64 0, .int .i64 0] 70)).heap.size ((w.alloc (.cells #[.slice (some ⟨g, 0, none⟩) L.length c1, .slice (some ⟨gs, 0, none⟩) N N, v2, .slice (some ⟨gb, 0, none⟩) N N] 92)).alloc (.cells #[.int .i64 0, .int .i64 0, .int .i64 0] 70)) wx)
  case first =>
    have hB := bl_drew (bl_refl ((w.alloc (.cells #[.slice (some ⟨g, 0, none⟩) L.length c1, .slice (some ⟨gs, 0, none⟩) N N, v2, .slice (some ⟨gb, 0, none⟩) N N] 92)).alloc (.cells #[.int .i64 0, .int .i64 0, .int .i64 0] 70)))
    refine wp_region_held_drew (S := fun u : World => Below ((w.alloc (.cells #[.slice (some ⟨g, 0, none⟩) L.length c1, .slice (some ⟨gs, 0, none⟩) N N, v2, .slice (some ⟨gb, 0, none⟩) N N] 92)).alloc (.cells #[.int .i64 0, .int .i64 0, .int .i64 0] 70)).heap.size ((w.alloc (.cells #[.slice (some ⟨g, 0, none⟩) L.length c1, .slice (some ⟨gs, 0, none⟩) N N, v2, .slice (some ⟨gb, 0, none⟩) N N] 92)).alloc (.cells #[.int .i64 0, .int .i64 0, .int .i64 0] 70)) u) (by kernel_rfl) (hB) (fun hHeld => ?_)
    (first | (refine tkY (i := 0) (oi := ?_) (v := ?_) ?_ (by kernel_rfl) ?_ ?_ ?_ (by assumption) ?_; rotate_left 2; (next => simp only [tka, tkb, tkc]; rfl); (next => exact fun _ _ _ h => h); (next => rfl); (next => intro w hSw; (try dsimp only at hSw); go_simp; (try (with_reducible rfl)))) | (refine tkN (i := 0) (oi := ?_) ?_ (by kernel_rfl) ?_ ?_ (by assumption) ?_; rotate_left 1; (next => simp only [tka, tkb, tkc]; rfl); (next => exact fun _ _ _ h => h); (next => rfl))); (try simp only [Act.put, tkd, tke, tkf])
    refine tkY (i := 1) (oi := ?_) (v := ?_) ?_ (by kernel_rfl) ?_ ?_ ?_ (by assumption) ?_; rotate_left 2; (next => simp only [tka, tkb, tkc]; rfl); (next => exact fun _ _ _ h => h); (next => rfl); (next => intro w_ hSw; (try dsimp only at hSw); have k1 := keep_cell hSw k1; go_simp; (try (with_reducible rfl))); (try simp only [Act.put, tkd, tke, tkf])
    (first | (refine tkY (i := 2) (oi := ?_) (v := ?_) ?_ (by kernel_rfl) ?_ ?_ ?_ (by assumption) ?_; rotate_left 2; (next => simp only [tka, tkb, tkc]; rfl); (next => exact fun _ _ _ h => h); (next => rfl); (next => intro w hSw; (try dsimp only at hSw); go_simp; (try (with_reducible rfl)))) | (refine tkN (i := 2) (oi := ?_) ?_ (by kernel_rfl) ?_ ?_ (by assumption) ?_; rotate_left 1; (next => simp only [tka, tkb, tkc]; rfl); (next => exact fun _ _ _ h => h); (next => rfl))); (try simp only [Act.put, tkd, tke, tkf])
    (first | (refine tkY (i := 3) (oi := ?_) (v := ?_) ?_ (by kernel_rfl) ?_ ?_ ?_ (by assumption) ?_; rotate_left 2; (next => simp only [tka, tkb, tkc]; rfl); (next => exact fun _ _ _ h => h); (next => rfl); (next => intro w hSw; (try dsimp only at hSw); go_simp; (try (with_reducible rfl)))) | (refine tkN (i := 3) (oi := ?_) ?_ (by kernel_rfl) ?_ ?_ (by assumption) ?_; rotate_left 1; (next => simp only [tka, tkb, tkc]; rfl); (next => exact fun _ _ _ h => h); (next => rfl))); (try simp only [Act.put, tkd, tke, tkf])
    refine tkY (i := 4) (oi := ?_) (v := ?_) ?_ (by kernel_rfl) ?_ ?_ ?_ (by assumption) ?_; rotate_left 2; (next => simp only [tka, tkb, tkc]; rfl); (next => exact fun _ _ _ h => h); (next => rfl); (next => intro w_ hSw; (try dsimp only at hSw); have a0 := keep_cell hSw a0; have a1 := keep_cell hSw a1; have a2 := keep_cell hSw a2; go_simp; (try (with_reducible rfl))); (try simp only [Act.put, tkd, tke, tkf])
    (first | (refine tkY (i := 5) (oi := ?_) (v := ?_) ?_ (by kernel_rfl) ?_ ?_ ?_ (by assumption) ?_; rotate_left 2; (next => simp only [tka, tkb, tkc]; rfl); (next => exact fun _ _ _ h => h); (next => rfl); (next => intro w hSw; (try dsimp only at hSw); go_simp; (try (with_reducible rfl)))) | (refine tkN (i := 5) (oi := ?_) ?_ (by kernel_rfl) ?_ ?_ (by assumption) ?_; rotate_left 1; (next => simp only [tka, tkb, tkc]; rfl); (next => exact fun _ _ _ h => h); (next => rfl))); (try simp only [Act.put, tkd, tke, tkf])
    refine tkY (i := 6) (oi := ?_) (v := ?_) ?_ (by kernel_rfl) ?_ ?_ ?_ (by assumption) ?_; rotate_left 2; (next => simp only [tka, tkb, tkc]; rfl); (next => exact fun _ _ _ h => h); (next => rfl); (next => intro w_ hSw; (try dsimp only at hSw); have k1 := keep_cell hSw k1; go_simp; (try (with_reducible rfl))); (try simp only [Act.put, tkd, tke, tkf])
    refine tkY (i := 7) (oi := ?_) (v := ?_) ?_ (by kernel_rfl) ?_ ?_ ?_ (by assumption) ?_; rotate_left 2; (next => simp only [tka, tkb, tkc]; rfl); (next => exact fun _ _ _ h => h); (next => rfl); (next => intro w_ hSw; (try dsimp only at hSw); have k0 := keep_cell hSw k0; have k1 := keep_cell hSw k1; have k2 := keep_cell hSw k2; have k3 := keep_cell hSw k3; go_simp; (try (with_reducible rfl))); (try simp only [Act.put, tkd, tke, tkf])
    (first | (refine tkY (i := 8) (oi := ?_) (v := ?_) ?_ (by kernel_rfl) ?_ ?_ ?_ (by assumption) ?_; rotate_left 2; (next => simp only [tka, tkb, tkc]; rfl); (next => exact fun _ _ _ h => h); (next => rfl); (next => intro w hSw; (try dsimp only at hSw); go_simp; (try (with_reducible rfl)))) | (refine tkN (i := 8) (oi := ?_) ?_ (by kernel_rfl) ?_ ?_ (by assumption) ?_; rotate_left 1; (next => simp only [tka, tkb, tkc]; rfl); (next => exact fun _ _ _ h => h); (next => rfl))); (try simp only [Act.put, tkd, tke, tkf])
    (first | (refine tkY (i := 9) (oi := ?_) (v := ?_) ?_ (by kernel_rfl) ?_ ?_ ?_ (by assumption) ?_; rotate_left 2; (next => simp only [tka, tkb, tkc]; rfl); (next => exact fun _ _ _ h => h); (next => rfl); (next => intro w hSw; (try dsimp only at hSw); go_simp; (try (with_reducible rfl)))) | (refine tkN (i := 9) (oi := ?_) ?_ (by kernel_rfl) ?_ ?_ (by assumption) ?_; rotate_left 1; (next => simp only [tka, tkb, tkc]; rfl); (next => exact fun _ _ _ h => h); (next => rfl))); (try simp only [Act.put, tkd, tke, tkf])
    refine wpAnyH_ready (rs := [10, 14]) (by kernel_rfl) (by simp) ?_; refine AllReadyH.cons (o := ?_) ?_ (fun K hK => ?_) ?_; rotate_left 1; (next => simp only [List.getElem?_toArray, List.getElem?_cons_succ, List.getElem?_cons_zero]; rfl)
    · go_simp
      (go_at_call 121; (with_reducible refine (HST.out _ (bl_call (by repeat' (first | with_reducible assumption | with_reducible refine bl_alloc ?_ _ | with_reducible refine bl_drew ?_)) hB2) _ _ _).mono ?_); rintro e u1 ⟨rfl, hb⟩; (have hB : Below ((w.alloc (.cells #[.slice (some ⟨g, 0, none⟩) L.length c1, .slice (some ⟨gs, 0, none⟩) N N, v2, .slice (some ⟨gb, 0, none⟩) N N] 92)).alloc (.cells #[.int .i64 0, .int .i64 0, .int .i64 0] 70)).heap.size ((w.alloc (.cells #[.slice (some ⟨g, 0, none⟩) L.length c1, .slice (some ⟨gs, 0, none⟩) N N, v2, .slice (some ⟨gb, 0, none⟩) N N] 92)).alloc (.cells #[.int .i64 0, .int .i64 0, .int .i64 0] 70)) u1 := bl_call hb (by repeat' (first | with_reducible assumption | with_reducible refine bl_alloc ?_ _ | with_reducible refine bl_drew ?_))))
      (try go_wp2_with fail); refine hK.out _ _ (hB) (fun hHeld => ?_); clear hK K; (try simp only [Act.put, List.setIfInBounds_toArray, List.set_cons_zero, List.set_cons_succ])
      (first | (refine tkY (i := 11) (oi := ?_) (v := ?_) ?_ (by kernel_rfl) ?_ ?_ ?_ (by assumption) ?_; rotate_left 2; (next => simp only [tka, tkb, tkc]; rfl); (next => exact fun _ _ _ h => h); (next => rfl); (next => intro w hSw; (try dsimp only at hSw); go_simp; (try (with_reducible rfl)))) | (refine tkN (i := 11) (oi := ?_) ?_ (by kernel_rfl) ?_ ?_ (by assumption) ?_; rotate_left 1; (next => simp only [tka, tkb, tkc]; rfl); (next => exact fun _ _ _ h => h); (next => rfl))); (try simp only [Act.put, tkd, tke, tkf])
      refine tkY (i := 12) (oi := ?_) (v := ?_) ?_ (by kernel_rfl) ?_ ?_ ?_ (by assumption) ?_; rotate_left 2; (next => simp only [tka, tkb, tkc]; rfl); (next => exact fun _ _ _ h => h); (next => rfl); (next => intro w_ hSw; (try dsimp only at hSw); have b0 := keep_cell hSw b0; have b1 := keep_cell hSw b1; have b2 := keep_cell hSw b2; go_simp; (try (with_reducible rfl))); (try simp only [Act.put, tkd, tke, tkf])
      refine wpAnyH_ready (rs := [13, 14]) (by kernel_rfl) (by simp) ?_; refine AllReadyH.cons (o := ?_) ?_ (fun K hK => ?_) ?_; rotate_left 1; (next => simp only [List.getElem?_toArray, List.getElem?_cons_succ, List.getElem?_cons_zero]; rfl)
      · go_simp
        (go_at_call 154; (with_reducible refine (HM.out _ (by omega) (by omega) (by omega) (by omega) (by omega) (by omega)).mono ?_); rintro e u2 ⟨rfl, hb⟩; (have hB : Below ((w.alloc (.cells #[.slice (some ⟨g, 0, none⟩) L.length c1, .slice (some ⟨gs, 0, none⟩) N N, v2, .slice (some ⟨gb, 0, none⟩) N N] 92)).alloc (.cells #[.int .i64 0, .int .i64 0, .int .i64 0] 70)).heap.size ((w.alloc (.cells #[.slice (some ⟨g, 0, none⟩) L.length c1, .slice (some ⟨gs, 0, none⟩) N N, v2, .slice (some ⟨gb, 0, none⟩) N N] 92)).alloc (.cells #[.int .i64 0, .int .i64 0, .int .i64 0] 70)) u2 := bl_call hb (by repeat' (first | with_reducible assumption | with_reducible refine bl_alloc ?_ _ | with_reducible refine bl_drew ?_))))
        have hz := hB.size
        rw [hz2] at hz
        (try go_wp2_with fail); refine hK.out _ _ (hB) (fun hHeld => ?_); clear hK K; (try simp only [Act.put, List.setIfInBounds_toArray, List.set_cons_zero, List.set_cons_succ])
        refine wpAnyH_ready (rs := [14]) (by kernel_rfl) (by simp) ?_; refine AllReadyH.cons (o := ?_) ?_ (fun K hK => ?_) AllReadyH.nil; rotate_left 1; (next => simp only [List.getElem?_toArray, List.getElem?_cons_succ, List.getElem?_cons_zero]; rfl); go_simp
        (try go_wp2_with fail); refine hK.out _ _ (bl_alloc hB _) (fun hHeld => ?_); clear hK K; (try simp only [Act.put, List.setIfInBounds_toArray, List.set_cons_zero, List.set_cons_succ])
        refine wpAnyH_ready (rs := [15]) (by kernel_rfl) (by simp) ?_; refine AllReadyH.cons (o := ?_) ?_ (fun K hK => ?_) AllReadyH.nil; rotate_left 1; (next => simp only [List.getElem?_toArray, List.getElem?_cons_succ, List.getElem?_cons_zero]; rfl); go_simp
        (try go_wp2_with fail); refine hK.out _ _ (bl_alloc hB _) (fun hHeld => ?_); clear hK K; (try simp only [Act.put, List.setIfInBounds_toArray, List.set_cons_zero, List.set_cons_succ])
        refine wpAnyH_done (by kernel_rfl) ?_ _
        (go_wp2_with fail; go_meet)
        exact ⟨_, rfl, hz, by simp [go_sem], by simp [go_sem], by simp [go_sem], bl_alloc hB _⟩
      · refine AllReadyH.cons (o := ?_) ?_ (fun K hK => ?_) AllReadyH.nil; rotate_left 1; (next => simp only [List.getElem?_toArray, List.getElem?_cons_succ, List.getElem?_cons_zero]; rfl)
        go_simp
        have hz := hB.size
        rw [hz2] at hz
        have hB := bl_alloc hB (.cells #[.int .i64 0, .int .i64 0, .int .i64 0] 70)
        (try go_wp2_with fail); refine hK.out _ _ (hB) (fun hHeld => ?_); clear hK K; (try simp only [Act.put, List.setIfInBounds_toArray, List.set_cons_zero, List.set_cons_succ])
        have zl : u1.heap.size < (u1.alloc (.cells #[.int .i64 0, .int .i64 0, .int .i64 0] 70)).heap.size := by simp
        have z0 : (u1.alloc (.cells #[.int .i64 0, .int .i64 0, .int .i64 0] 70)).cell? ⟨u1.heap.size, 0, none⟩ = some (.int .i64 0) := by simp [go_sem]
        have z1 : (u1.alloc (.cells #[.int .i64 0, .int .i64 0, .int .i64 0] 70)).cell? ⟨u1.heap.size, 1, none⟩ = some (.int .i64 0) := by simp [go_sem]
        have z2 : (u1.alloc (.cells #[.int .i64 0, .int .i64 0, .int .i64 0] 70)).cell? ⟨u1.heap.size, 2, none⟩ = some (.int .i64 0) := by simp [go_sem]
        have g0 : (u1.alloc (.cells #[.int .i64 0, .int .i64 0, .int .i64 0] 70)).frozen? ⟨u1.heap.size, 0, none⟩ = false := by simp [go_sem]
        have g1 : (u1.alloc (.cells #[.int .i64 0, .int .i64 0, .int .i64 0] 70)).frozen? ⟨u1.heap.size, 1, none⟩ = false := by simp [go_sem]
        have g2 : (u1.alloc (.cells #[.int .i64 0, .int .i64 0, .int .i64 0] 70)).frozen? ⟨u1.heap.size, 2, none⟩ = false := by simp [go_sem]
        refine wpAnyH_ready (rs := [13]) (by kernel_rfl) (by simp) ?_; refine AllReadyH.cons (o := ?_) ?_ (fun K hK => ?_) AllReadyH.nil; rotate_left 1; (next => simp only [List.getElem?_toArray, List.getElem?_cons_succ, List.getElem?_cons_zero]; rfl); go_simp
        (go_at_call 154; (with_reducible refine (HM.out _ (by omega) (by omega) (by omega) (by omega) (by omega) (by omega)).mono ?_); rintro e u2 ⟨rfl, hb⟩; (have hB : Below ((w.alloc (.cells #[.slice (some ⟨g, 0, none⟩) L.length c1, .slice (some ⟨gs, 0, none⟩) N N, v2, .slice (some ⟨gb, 0, none⟩) N N] 92)).alloc (.cells #[.int .i64 0, .int .i64 0, .int .i64 0] 70)).heap.size ((w.alloc (.cells #[.slice (some ⟨g, 0, none⟩) L.length c1, .slice (some ⟨gs, 0, none⟩) N N, v2, .slice (some ⟨gb, 0, none⟩) N N] 92)).alloc (.cells #[.int .i64 0, .int .i64 0, .int .i64 0] 70)) u2 := bl_call hb (by repeat' (first | with_reducible assumption | with_reducible refine bl_alloc ?_ _ | with_reducible refine bl_drew ?_))))
        have z0 := keep_cell hb z0
        have z1 := keep_cell hb z1
        have z2 := keep_cell hb z2
        have g0 := (hb.frozen (p := ⟨u1.heap.size, 0, none⟩) zl).trans g0
        have g1 := (hb.frozen (p := ⟨u1.heap.size, 1, none⟩) zl).trans g1
        have g2 := (hb.frozen (p := ⟨u1.heap.size, 2, none⟩) zl).trans g2
        have zq : u1.heap.size < u2.heap.size := Nat.lt_of_lt_of_le zl hb.size
        clear hb
        (try go_wp2_with fail); refine hK.out _ _ (hB) (fun hHeld => ?_); clear hK K; (try simp only [Act.put, List.setIfInBounds_toArray, List.set_cons_zero, List.set_cons_succ])
        refine wpAnyH_ready (rs := [15]) (by kernel_rfl) (by simp) ?_; refine AllReadyH.cons (o := ?_) ?_ (fun K hK => ?_) AllReadyH.nil; rotate_left 1; (next => simp only [List.getElem?_toArray, List.getElem?_cons_succ, List.getElem?_cons_zero]; rfl); go_simp
        (try go_wp2_with fail); refine hK.out _ _ (bl_set (bl_set (bl_set hB (Nat.le_trans (Nat.le_of_eq hz2) hz) _) (Nat.le_trans (Nat.le_of_eq hz2) hz) _) (Nat.le_trans (Nat.le_of_eq hz2) hz) _) (fun hHeld => ?_); clear hK K; (try simp only [Act.put, List.setIfInBounds_toArray, List.set_cons_zero, List.set_cons_succ])
        refine wpAnyH_done (by kernel_rfl) ?_ _
        (go_wp2_with fail; go_meet)
        exact ⟨_, rfl, hz, by simp [go_sem, *], by simp [go_sem, *], by simp [go_sem, *], bl_set (bl_set (bl_set hB (Nat.le_trans (Nat.le_of_eq hz2) hz) _) (Nat.le_trans (Nat.le_of_eq hz2) hz) _) (Nat.le_trans (Nat.le_of_eq hz2) hz) _⟩
    · refine AllReadyH.cons (o := ?_) ?_ (fun K hK => ?_) AllReadyH.nil; rotate_left 1; (next => simp only [List.getElem?_toArray, List.getElem?_cons_succ, List.getElem?_cons_zero]; rfl)
      go_simp
      have hB := bl_alloc hB (.cells #[.int .i64 0, .int .i64 0, .int .i64 0] 70)
      (try go_wp2_with fail); refine hK.out _ _ (hB) (fun hHeld => ?_); clear hK K; (try simp only [Act.put, List.setIfInBounds_toArray, List.set_cons_zero, List.set_cons_succ])
      have zl : w.heap.size + 1 + 1 < (((w.alloc (.cells #[.slice (some ⟨g, 0, none⟩) L.length c1, .slice (some ⟨gs, 0, none⟩) N N, v2, .slice (some ⟨gb, 0, none⟩) N N] 92)).alloc (.cells #[.int .i64 0, .int .i64 0, .int .i64 0] 70)).drew.alloc (.cells #[.int .i64 0, .int .i64 0, .int .i64 0] 70)).heap.size := by simp
      have z0 : (((w.alloc (.cells #[.slice (some ⟨g, 0, none⟩) L.length c1, .slice (some ⟨gs, 0, none⟩) N N, v2, .slice (some ⟨gb, 0, none⟩) N N] 92)).alloc (.cells #[.int .i64 0, .int .i64 0, .int .i64 0] 70)).drew.alloc (.cells #[.int .i64 0, .int .i64 0, .int .i64 0] 70)).cell? ⟨w.heap.size + 1 + 1, 0, none⟩ = some (.int .i64 0) := by rw [World.cell?_alloc_at _ _ _ _ (by simp)]; rfl
      have z1 : (((w.alloc (.cells #[.slice (some ⟨g, 0, none⟩) L.length c1, .slice (some ⟨gs, 0, none⟩) N N, v2, .slice (some ⟨gb, 0, none⟩) N N] 92)).alloc (.cells #[.int .i64 0, .int .i64 0, .int .i64 0] 70)).drew.alloc (.cells #[.int .i64 0, .int .i64 0, .int .i64 0] 70)).cell? ⟨w.heap.size + 1 + 1, 1, none⟩ = some (.int .i64 0) := by rw [World.cell?_alloc_at _ _ _ _ (by simp)]; rfl
      have z2 : (((w.alloc (.cells #[.slice (some ⟨g, 0, none⟩) L.length c1, .slice (some ⟨gs, 0, none⟩) N N, v2, .slice (some ⟨gb, 0, none⟩) N N] 92)).alloc (.cells #[.int .i64 0, .int .i64 0, .int .i64 0] 70)).drew.alloc (.cells #[.int .i64 0, .int .i64 0, .int .i64 0] 70)).cell? ⟨w.heap.size + 1 + 1, 2, none⟩ = some (.int .i64 0) := by rw [World.cell?_alloc_at _ _ _ _ (by simp)]; rfl
      have g0 : (((w.alloc (.cells #[.slice (some ⟨g, 0, none⟩) L.length c1, .slice (some ⟨gs, 0, none⟩) N N, v2, .slice (some ⟨gb, 0, none⟩) N N] 92)).alloc (.cells #[.int .i64 0, .int .i64 0, .int .i64 0] 70)).drew.alloc (.cells #[.int .i64 0, .int .i64 0, .int .i64 0] 70)).frozen? ⟨w.heap.size + 1 + 1, 0, none⟩ = false := by simp [go_sem]
      have g1 : (((w.alloc (.cells #[.slice (some ⟨g, 0, none⟩) L.length c1, .slice (some ⟨gs, 0, none⟩) N N, v2, .slice (some ⟨gb, 0, none⟩) N N] 92)).alloc (.cells #[.int .i64 0, .int .i64 0, .int .i64 0] 70)).drew.alloc (.cells #[.int .i64 0, .int .i64 0, .int .i64 0] 70)).frozen? ⟨w.heap.size + 1 + 1, 1, none⟩ = false := by simp [go_sem]
      have g2 : (((w.alloc (.cells #[.slice (some ⟨g, 0, none⟩) L.length c1, .slice (some ⟨gs, 0, none⟩) N N, v2, .slice (some ⟨gb, 0, none⟩) N N] 92)).alloc (.cells #[.int .i64 0, .int .i64 0, .int .i64 0] 70)).drew.alloc (.cells #[.int .i64 0, .int .i64 0, .int .i64 0] 70)).frozen? ⟨w.heap.size + 1 + 1, 2, none⟩ = false := by simp [go_sem]
      have hz : w.heap.size + 2 ≤ w.heap.size + 1 + 1 := by omega
      refine wpAnyH_ready (rs := [10]) (by kernel_rfl) (by simp) ?_; refine AllReadyH.cons (o := ?_) ?_ (fun K hK => ?_) AllReadyH.nil; rotate_left 1; (next => simp only [List.getElem?_toArray, List.getElem?_cons_succ, List.getElem?_cons_zero]; rfl); go_simp
      (go_at_call 121; (with_reducible refine (HST.out _ (bl_call (by repeat' (first | with_reducible assumption | with_reducible refine bl_alloc ?_ _ | with_reducible refine bl_drew ?_)) hB2) _ _ _).mono ?_); rintro e u1 ⟨rfl, hb⟩; (have hB : Below ((w.alloc (.cells #[.slice (some ⟨g, 0, none⟩) L.length c1, .slice (some ⟨gs, 0, none⟩) N N, v2, .slice (some ⟨gb, 0, none⟩) N N] 92)).alloc (.cells #[.int .i64 0, .int .i64 0, .int .i64 0] 70)).heap.size ((w.alloc (.cells #[.slice (some ⟨g, 0, none⟩) L.length c1, .slice (some ⟨gs, 0, none⟩) N N, v2, .slice (some ⟨gb, 0, none⟩) N N] 92)).alloc (.cells #[.int .i64 0, .int .i64 0, .int .i64 0] 70)) u1 := bl_call hb (by repeat' (first | with_reducible assumption | with_reducible refine bl_alloc ?_ _ | with_reducible refine bl_drew ?_))))
      have z0 := keep_cell hb z0
      have z1 := keep_cell hb z1
      have z2 := keep_cell hb z2
      have g0 := (hb.frozen (p := ⟨w.heap.size + 1 + 1, 0, none⟩) zl).trans g0
      have g1 := (hb.frozen (p := ⟨w.heap.size + 1 + 1, 1, none⟩) zl).trans g1
      have g2 := (hb.frozen (p := ⟨w.heap.size + 1 + 1, 2, none⟩) zl).trans g2
      have zl := Nat.lt_of_lt_of_le zl hb.size
      clear hb
      (try go_wp2_with fail); refine hK.out _ _ (hB) (fun hHeld => ?_); clear hK K; (try simp only [Act.put, List.setIfInBounds_toArray, List.set_cons_zero, List.set_cons_succ])
      (first | (refine tkY (i := 11) (oi := ?_) (v := ?_) ?_ (by kernel_rfl) ?_ ?_ ?_ (by assumption) ?_; rotate_left 2; (next => simp only [tka, tkb, tkc]; rfl); (next => exact fun _ _ _ h => h); (next => rfl); (next => intro w hSw; (try dsimp only at hSw); go_simp; (try (with_reducible rfl)))) | (refine tkN (i := 11) (oi := ?_) ?_ (by kernel_rfl) ?_ ?_ (by assumption) ?_; rotate_left 1; (next => simp only [tka, tkb, tkc]; rfl); (next => exact fun _ _ _ h => h); (next => rfl))); (try simp only [Act.put, tkd, tke, tkf])
      refine tkY (i := 12) (oi := ?_) (v := ?_) ?_ (by kernel_rfl) ?_ ?_ ?_ (by assumption) ?_; rotate_left 2; (next => simp only [tka, tkb, tkc]; rfl); (next => exact fun _ _ _ h => h); (next => rfl); (next => intro w_ hSw; (try dsimp only at hSw); have b0 := keep_cell hSw b0; have b1 := keep_cell hSw b1; have b2 := keep_cell hSw b2; go_simp; (try (with_reducible rfl))); (try simp only [Act.put, tkd, tke, tkf])
      refine wpAnyH_ready (rs := [13]) (by kernel_rfl) (by simp) ?_; refine AllReadyH.cons (o := ?_) ?_ (fun K hK => ?_) AllReadyH.nil; rotate_left 1; (next => simp only [List.getElem?_toArray, List.getElem?_cons_succ, List.getElem?_cons_zero]; rfl); go_simp
      (go_at_call 154; (with_reducible refine (HM.out _ (by omega) (by omega) (by omega) (by omega) (by omega) (by omega)).mono ?_); rintro e u2 ⟨rfl, hb⟩; (have hB : Below ((w.alloc (.cells #[.slice (some ⟨g, 0, none⟩) L.length c1, .slice (some ⟨gs, 0, none⟩) N N, v2, .slice (some ⟨gb, 0, none⟩) N N] 92)).alloc (.cells #[.int .i64 0, .int .i64 0, .int .i64 0] 70)).heap.size ((w.alloc (.cells #[.slice (some ⟨g, 0, none⟩) L.length c1, .slice (some ⟨gs, 0, none⟩) N N, v2, .slice (some ⟨gb, 0, none⟩) N N] 92)).alloc (.cells #[.int .i64 0, .int .i64 0, .int .i64 0] 70)) u2 := bl_call hb (by repeat' (first | with_reducible assumption | with_reducible refine bl_alloc ?_ _ | with_reducible refine bl_drew ?_))))
      have z0 := keep_cell hb z0
      have z1 := keep_cell hb z1
      have z2 := keep_cell hb z2
      have g0 := (hb.frozen (p := ⟨w.heap.size + 1 + 1, 0, none⟩) zl).trans g0
      have g1 := (hb.frozen (p := ⟨w.heap.size + 1 + 1, 1, none⟩) zl).trans g1
      have g2 := (hb.frozen (p := ⟨w.heap.size + 1 + 1, 2, none⟩) zl).trans g2
      have zl := Nat.lt_of_lt_of_le zl hb.size
      clear hb
      (try go_wp2_with fail); refine hK.out _ _ (hB) (fun hHeld => ?_); clear hK K; (try simp only [Act.put, List.setIfInBounds_toArray, List.set_cons_zero, List.set_cons_succ])
      refine wpAnyH_ready (rs := [15]) (by kernel_rfl) (by simp) ?_; refine AllReadyH.cons (o := ?_) ?_ (fun K hK => ?_) AllReadyH.nil; rotate_left 1; (next => simp only [List.getElem?_toArray, List.getElem?_cons_succ, List.getElem?_cons_zero]; rfl); go_simp
      (try go_wp2_with fail); refine hK.out _ _ (bl_set (bl_set (bl_set hB (Nat.le_trans (Nat.le_of_eq hz2) hz) _) (Nat.le_trans (Nat.le_of_eq hz2) hz) _) (Nat.le_trans (Nat.le_of_eq hz2) hz) _) (fun hHeld => ?_); clear hK K; (try simp only [Act.put, List.setIfInBounds_toArray, List.set_cons_zero, List.set_cons_succ])
      refine wpAnyH_done (by kernel_rfl) ?_ _
      (go_wp2_with fail; go_meet)
      exact ⟨_, rfl, hz, by simp [go_sem, *], by simp [go_sem, *], by simp [go_sem, *], bl_set (bl_set (bl_set hB (Nat.le_trans (Nat.le_of_eq hz2) hz) _) (Nat.le_trans (Nat.le_of_eq hz2) hz) _) (Nat.le_trans (Nat.le_of_eq hz2) hz) _⟩
  case rest =>
    obtain ⟨r, rfl, hr, c0, c1', c2, hbw⟩ := hcut
    have k0 := keep_cell hbw k0
    have e0 := keep_cell hbw e0
    have r0 := keep_cell hbw r0
    have r1 := keep_cell hbw r1
    have r2 := keep_cell hbw r2
    have lw : w.heap.size + 1 < ((w.alloc (.cells #[.slice (some ⟨g, 0, none⟩) L.length c1, .slice (some ⟨gs, 0, none⟩) N N, v2, .slice (some ⟨gb, 0, none⟩) N N] 92)).alloc (.cells #[.int .i64 0, .int .i64 0, .int .i64 0] 70)).heap.size := by rw [hz2]; omega
    have f0 := (hbw.frozen (p := ⟨w.heap.size + 1, 0, none⟩) lw).trans f0
    have f1 := (hbw.frozen (p := ⟨w.heap.size + 1, 1, none⟩) lw).trans f1
    have f2 := (hbw.frozen (p := ⟨w.heap.size + 1, 2, none⟩) lw).trans f2
    have hrn : r ≠ w.heap.size + 1 := by omega
    have lx : w.heap.size + 1 < wc.heap.size := Nat.lt_of_lt_of_le lw hbw.size
    have HBC : Hid (Below w.heap.size w wc) := hide (bl_call hbw hB2)
    have HP := hide (plus_big (x0 - y0) (x1 - y1) (x2 - y2))
    clear k1 k2 k3 a0 a1 a2 b0 b1 b2 hbw hz2 lw hB2 HST HM
    rcases HK.out with ⟨rfl, ⟨a', rfl⟩, hm⟩ | ⟨rfl, ⟨a', b', c', rfl⟩, hm⟩ | ⟨rfl, a', p', f', rfl, hm⟩
    · have HM2 := hide hm
      subst hm
      clear HK HM2
      go_upto_region 2 with fail
      have S0 := bl_drew (bl_refl wc)
      refine wp_region_held_drew (S := fun u : World => Below (w.heap.size + 1) wc u ∧ u.cell? ⟨r, 0, none⟩ = some (.int .i64 (x0 - y0)) ∧ u.cell? ⟨r, 1, none⟩ = some (.int .i64 (x1 - y1)) ∧ u.cell? ⟨r, 2, none⟩ = some (.int .i64 (x2 - y2))) (by kernel_rfl) (⟨S0.mono (Nat.le_of_lt lx), c0, c1', c2⟩) (fun hHeld => ?_)
      refine tkY (i := 0) (oi := ?_) (v := ?_) ?_ (by kernel_rfl) ?_ ?_ ?_ (by assumption) ?_; rotate_left 2; (next => simp only [tka, tkb, tkc]; rfl); (next => exact fun _ _ _ h => h); (next => rfl); (next => intro w_ hSw; (try dsimp only at hSw); obtain ⟨_, c0, c1', c2⟩ := hSw; go_simp; (try (with_reducible rfl))); (try simp only [Act.put, tkd, tke, tkf])
      (first | (refine tkY (i := 1) (oi := ?_) (v := ?_) ?_ (by kernel_rfl) ?_ ?_ ?_ (by assumption) ?_; rotate_left 2; (next => simp only [tka, tkb, tkc]; rfl); (next => exact fun _ _ _ h => h); (next => rfl); (next => intro w hSw; (try dsimp only at hSw); go_simp; (try (with_reducible rfl)))) | (refine tkN (i := 1) (oi := ?_) ?_ (by kernel_rfl) ?_ ?_ (by assumption) ?_; rotate_left 1; (next => simp only [tka, tkb, tkc]; rfl); (next => exact fun _ _ _ h => h); (next => rfl))); (try simp only [Act.put, tkd, tke, tkf])
      refine tkY (i := 2) (oi := ?_) (v := ?_) ?_ (by kernel_rfl) ?_ ?_ ?_ (by assumption) ?_; rotate_left 2; (next => simp only [tka, tkb, tkc]; rfl); (next => exact fun _ _ _ h => h); (next => rfl); (next => intro w_ hSw; (try dsimp only at hSw); have k0 := (hSw.1.cell (p := ⟨w.heap.size, 0, none⟩) (by simp)).trans k0; go_simp; (try (with_reducible rfl))); (try simp only [Act.put, tkd, tke, tkf])
      (first | (refine tkY (i := 3) (oi := ?_) (v := ?_) ?_ (by kernel_rfl) ?_ ?_ ?_ (by assumption) ?_; rotate_left 2; (next => simp only [tka, tkb, tkc]; rfl); (next => exact fun _ _ _ h => h); (next => rfl); (next => intro w hSw; (try dsimp only at hSw); go_simp; (try (with_reducible rfl)))) | (refine tkN (i := 3) (oi := ?_) ?_ (by kernel_rfl) ?_ ?_ (by assumption) ?_; rotate_left 1; (next => simp only [tka, tkb, tkc]; rfl); (next => exact fun _ _ _ h => h); (next => rfl))); (try simp only [Act.put, tkd, tke, tkf])
      (first | (refine tkY (i := 4) (oi := ?_) (v := ?_) ?_ (by kernel_rfl) ?_ ?_ ?_ (by assumption) ?_; rotate_left 2; (next => simp only [tka, tkb, tkc]; rfl); (next => exact fun _ _ _ h => h); (next => rfl); (next => intro w hSw; (try dsimp only at hSw); go_simp; (try (with_reducible rfl)))) | (refine tkN (i := 4) (oi := ?_) ?_ (by kernel_rfl) ?_ ?_ (by assumption) ?_; rotate_left 1; (next => simp only [tka, tkb, tkc]; rfl); (next => exact fun _ _ _ h => h); (next => rfl))); (try simp only [Act.put, tkd, tke, tkf])
      refine tkY (i := 5) (oi := ?_) (v := ?_) ?_ (by kernel_rfl) ?_ ?_ ?_ (by assumption) ?_; rotate_left 2; (next => simp only [tka, tkb, tkc]; rfl); (next => exact fun _ _ _ h => h); (next => rfl); (next => intro w_ hSw; (try dsimp only at hSw); have e0 := (hSw.1.cell (p := ⟨g, q, none⟩) (by simp; omega)).trans e0; go_simp; (try (with_reducible rfl))); (try simp only [Act.put, tkd, tke, tkf])
      refine wpAnyH_ready (rs := [6]) (by kernel_rfl) (by simp) ?_; refine AllReadyH.cons (o := ?_) ?_ (fun K hK => ?_) AllReadyH.nil; rotate_left 1; (next => simp only [List.getElem?_toArray, List.getElem?_cons_succ, List.getElem?_cons_zero]; rfl); go_simp
      (go_at_call 183; (with_reducible refine (box_atEnd _ _).mono ?_); rintro e u1 ⟨rfl, hb⟩)
      have S1 : Below wc.heap.size wc u1 := bl_call hb S0
      have c0 := keep_cell hb c0
      have c1' := keep_cell hb c1'
      have c2 := keep_cell hb c2
      clear hb
      (try go_wp2_with fail); refine hK.out _ _ (⟨S1.mono (Nat.le_of_lt lx), c0, c1', c2⟩) (fun hHeld => ?_); clear hK K; (try simp only [Act.put, List.setIfInBounds_toArray, List.set_cons_zero, List.set_cons_succ])
      refine wpAnyH_ready (rs := [7]) (by kernel_rfl) (by simp) ?_; refine AllReadyH.cons (o := ?_) ?_ (fun K hK => ?_) AllReadyH.nil; rotate_left 1; (next => simp only [List.getElem?_toArray, List.getElem?_cons_succ, List.getElem?_cons_zero]; rfl); go_simp
      (go_at_call 117; (with_reducible refine (HP.out 0 0 0 _ (by omega) (by omega) (by omega) (by omega) (by omega) (by omega)).mono ?_); rintro e u2 ⟨rfl, hb⟩)
      have S2 : Below wc.heap.size wc u2 := bl_call hb S1
      have c0 := keep_cell hb c0
      have c1' := keep_cell hb c1'
      have c2 := keep_cell hb c2
      have r0 := keep_cell S2 r0
      have r1 := keep_cell S2 r1
      have r2 := keep_cell S2 r2
      have f0 := (S2.frozen (p := ⟨w.heap.size + 1, 0, none⟩) lx).trans f0
      have f1 := (S2.frozen (p := ⟨w.heap.size + 1, 1, none⟩) lx).trans f1
      have f2 := (S2.frozen (p := ⟨w.heap.size + 1, 2, none⟩) lx).trans f2
      clear hb
      (try go_wp2_with fail); refine hK.out _ _ (⟨S2.mono (Nat.le_of_lt lx), c0, c1', c2⟩) (fun hHeld => ?_); clear hK K; (try simp only [Act.put, List.setIfInBounds_toArray, List.set_cons_zero, List.set_cons_succ])
      refine wpAnyH_ready (rs := [8]) (by kernel_rfl) (by simp) ?_; refine AllReadyH.cons (o := ?_) ?_ (fun K hK => ?_) AllReadyH.nil; rotate_left 1; (next => simp only [List.getElem?_toArray, List.getElem?_cons_succ, List.getElem?_cons_zero]; rfl); go_simp
      (try go_wp2_with fail); refine hK.out _ _ (⟨((((S2.mono (Nat.le_of_lt lx)).setCell (Nat.le_refl _) _).setCell (Nat.le_refl _) _).setCell (Nat.le_refl _) _), keep_far3 c0 hrn, keep_far3 c1' hrn, keep_far3 c2 hrn⟩) (fun hHeld => ?_); clear hK K; (try simp only [Act.put, List.setIfInBounds_toArray, List.set_cons_zero, List.set_cons_succ])
      refine wpAnyH_done (by kernel_rfl) ?_ _
      go_wp2
      refine bodyPost_ret (v := gv (x0 - y0 + 0) (x1 - y1) (x2 - y2)) (by simp [results, Try.results112, go_sem, *]) rfl ⟨rfl, bl_set (bl_set (bl_set (bl_call S2 HBC.out) (by simp) _) (by simp) _) (by simp) _⟩
    · have HM2 := hide hm
      subst hm
      clear HK HM2
      go_upto_region 2 with fail
      have S0 := bl_drew (bl_refl wc)
      refine wp_region_held_drew (S := fun u : World => Below (w.heap.size + 1) wc u ∧ u.cell? ⟨r, 0, none⟩ = some (.int .i64 (x0 - y0)) ∧ u.cell? ⟨r, 1, none⟩ = some (.int .i64 (x1 - y1)) ∧ u.cell? ⟨r, 2, none⟩ = some (.int .i64 (x2 - y2))) (by kernel_rfl) (⟨S0.mono (Nat.le_of_lt lx), c0, c1', c2⟩) (fun hHeld => ?_)
      refine tkY (i := 0) (oi := ?_) (v := ?_) ?_ (by kernel_rfl) ?_ ?_ ?_ (by assumption) ?_; rotate_left 2; (next => simp only [tka, tkb, tkc]; rfl); (next => exact fun _ _ _ h => h); (next => rfl); (next => intro w_ hSw; (try dsimp only at hSw); obtain ⟨_, c0, c1', c2⟩ := hSw; go_simp; (try (with_reducible rfl))); (try simp only [Act.put, tkd, tke, tkf])
      (first | (refine tkY (i := 1) (oi := ?_) (v := ?_) ?_ (by kernel_rfl) ?_ ?_ ?_ (by assumption) ?_; rotate_left 2; (next => simp only [tka, tkb, tkc]; rfl); (next => exact fun _ _ _ h => h); (next => rfl); (next => intro w hSw; (try dsimp only at hSw); go_simp; (try (with_reducible rfl)))) | (refine tkN (i := 1) (oi := ?_) ?_ (by kernel_rfl) ?_ ?_ (by assumption) ?_; rotate_left 1; (next => simp only [tka, tkb, tkc]; rfl); (next => exact fun _ _ _ h => h); (next => rfl))); (try simp only [Act.put, tkd, tke, tkf])
      refine tkY (i := 2) (oi := ?_) (v := ?_) ?_ (by kernel_rfl) ?_ ?_ ?_ (by assumption) ?_; rotate_left 2; (next => simp only [tka, tkb, tkc]; rfl); (next => exact fun _ _ _ h => h); (next => rfl); (next => intro w_ hSw; (try dsimp only at hSw); have k0 := (hSw.1.cell (p := ⟨w.heap.size, 0, none⟩) (by simp)).trans k0; go_simp; (try (with_reducible rfl))); (try simp only [Act.put, tkd, tke, tkf])
      (first | (refine tkY (i := 3) (oi := ?_) (v := ?_) ?_ (by kernel_rfl) ?_ ?_ ?_ (by assumption) ?_; rotate_left 2; (next => simp only [tka, tkb, tkc]; rfl); (next => exact fun _ _ _ h => h); (next => rfl); (next => intro w hSw; (try dsimp only at hSw); go_simp; (try (with_reducible rfl)))) | (refine tkN (i := 3) (oi := ?_) ?_ (by kernel_rfl) ?_ ?_ (by assumption) ?_; rotate_left 1; (next => simp only [tka, tkb, tkc]; rfl); (next => exact fun _ _ _ h => h); (next => rfl))); (try simp only [Act.put, tkd, tke, tkf])
      (first | (refine tkY (i := 4) (oi := ?_) (v := ?_) ?_ (by kernel_rfl) ?_ ?_ ?_ (by assumption) ?_; rotate_left 2; (next => simp only [tka, tkb, tkc]; rfl); (next => exact fun _ _ _ h => h); (next => rfl); (next => intro w hSw; (try dsimp only at hSw); go_simp; (try (with_reducible rfl)))) | (refine tkN (i := 4) (oi := ?_) ?_ (by kernel_rfl) ?_ ?_ (by assumption) ?_; rotate_left 1; (next => simp only [tka, tkb, tkc]; rfl); (next => exact fun _ _ _ h => h); (next => rfl))); (try simp only [Act.put, tkd, tke, tkf])
      refine tkY (i := 5) (oi := ?_) (v := ?_) ?_ (by kernel_rfl) ?_ ?_ ?_ (by assumption) ?_; rotate_left 2; (next => simp only [tka, tkb, tkc]; rfl); (next => exact fun _ _ _ h => h); (next => rfl); (next => intro w_ hSw; (try dsimp only at hSw); have e0 := (hSw.1.cell (p := ⟨g, q, none⟩) (by simp; omega)).trans e0; go_simp; (try (with_reducible rfl))); (try simp only [Act.put, tkd, tke, tkf])
      refine wpAnyH_ready (rs := [6]) (by kernel_rfl) (by simp) ?_; refine AllReadyH.cons (o := ?_) ?_ (fun K hK => ?_) AllReadyH.nil; rotate_left 1; (next => simp only [List.getElem?_toArray, List.getElem?_cons_succ, List.getElem?_cons_zero]; rfl); go_simp
      (go_at_call 189; (with_reducible refine (glue_atEnd _ _ _ _).mono ?_); rintro e u1 ⟨rfl, hb⟩)
      have S1 : Below wc.heap.size wc u1 := bl_call hb S0
      have c0 := keep_cell hb c0
      have c1' := keep_cell hb c1'
      have c2 := keep_cell hb c2
      clear hb
      (try go_wp2_with fail); refine hK.out _ _ (⟨S1.mono (Nat.le_of_lt lx), c0, c1', c2⟩) (fun hHeld => ?_); clear hK K; (try simp only [Act.put, List.setIfInBounds_toArray, List.set_cons_zero, List.set_cons_succ])
      refine wpAnyH_ready (rs := [7]) (by kernel_rfl) (by simp) ?_; refine AllReadyH.cons (o := ?_) ?_ (fun K hK => ?_) AllReadyH.nil; rotate_left 1; (next => simp only [List.getElem?_toArray, List.getElem?_cons_succ, List.getElem?_cons_zero]; rfl); go_simp
      (go_at_call 117; (with_reducible refine (HP.out 0 0 0 _ (by omega) (by omega) (by omega) (by omega) (by omega) (by omega)).mono ?_); rintro e u2 ⟨rfl, hb⟩)
      have S2 : Below wc.heap.size wc u2 := bl_call hb S1
      have c0 := keep_cell hb c0
      have c1' := keep_cell hb c1'
      have c2 := keep_cell hb c2
      have r0 := keep_cell S2 r0
      have r1 := keep_cell S2 r1
      have r2 := keep_cell S2 r2
      have f0 := (S2.frozen (p := ⟨w.heap.size + 1, 0, none⟩) lx).trans f0
      have f1 := (S2.frozen (p := ⟨w.heap.size + 1, 1, none⟩) lx).trans f1
      have f2 := (S2.frozen (p := ⟨w.heap.size + 1, 2, none⟩) lx).trans f2
      clear hb
      (try go_wp2_with fail); refine hK.out _ _ (⟨S2.mono (Nat.le_of_lt lx), c0, c1', c2⟩) (fun hHeld => ?_); clear hK K; (try simp only [Act.put, List.setIfInBounds_toArray, List.set_cons_zero, List.set_cons_succ])
      refine wpAnyH_ready (rs := [8]) (by kernel_rfl) (by simp) ?_; refine AllReadyH.cons (o := ?_) ?_ (fun K hK => ?_) AllReadyH.nil; rotate_left 1; (next => simp only [List.getElem?_toArray, List.getElem?_cons_succ, List.getElem?_cons_zero]; rfl); go_simp
      (try go_wp2_with fail); refine hK.out _ _ (⟨((((S2.mono (Nat.le_of_lt lx)).setCell (Nat.le_refl _) _).setCell (Nat.le_refl _) _).setCell (Nat.le_refl _) _), keep_far3 c0 hrn, keep_far3 c1' hrn, keep_far3 c2 hrn⟩) (fun hHeld => ?_); clear hK K; (try simp only [Act.put, List.setIfInBounds_toArray, List.set_cons_zero, List.set_cons_succ])
      refine wpAnyH_done (by kernel_rfl) ?_ _
      go_wp2
      refine bodyPost_ret (v := gv (x0 - y0 + 0) (x1 - y1) (x2 - y2)) (by simp [results, Try.results112, go_sem, *]) rfl ⟨rfl, bl_set (bl_set (bl_set (bl_call S2 HBC.out) (by simp) _) (by simp) _) (by simp) _⟩
    · have HM2 := hide hm
      subst hm
      clear HK HM2
      go_upto_region 2 with fail
      have S0 := bl_drew (bl_refl wc)
      refine wp_region_held_drew (S := fun u : World => Below (w.heap.size + 1) wc u ∧ u.cell? ⟨r, 0, none⟩ = some (.int .i64 (x0 - y0)) ∧ u.cell? ⟨r, 1, none⟩ = some (.int .i64 (x1 - y1)) ∧ u.cell? ⟨r, 2, none⟩ = some (.int .i64 (x2 - y2))) (by kernel_rfl) (⟨S0.mono (Nat.le_of_lt lx), c0, c1', c2⟩) (fun hHeld => ?_)
      refine tkY (i := 0) (oi := ?_) (v := ?_) ?_ (by kernel_rfl) ?_ ?_ ?_ (by assumption) ?_; rotate_left 2; (next => simp only [tka, tkb, tkc]; rfl); (next => exact fun _ _ _ h => h); (next => rfl); (next => intro w_ hSw; (try dsimp only at hSw); obtain ⟨_, c0, c1', c2⟩ := hSw; go_simp; (try (with_reducible rfl))); (try simp only [Act.put, tkd, tke, tkf])
      (first | (refine tkY (i := 1) (oi := ?_) (v := ?_) ?_ (by kernel_rfl) ?_ ?_ ?_ (by assumption) ?_; rotate_left 2; (next => simp only [tka, tkb, tkc]; rfl); (next => exact fun _ _ _ h => h); (next => rfl); (next => intro w hSw; (try dsimp only at hSw); go_simp; (try (with_reducible rfl)))) | (refine tkN (i := 1) (oi := ?_) ?_ (by kernel_rfl) ?_ ?_ (by assumption) ?_; rotate_left 1; (next => simp only [tka, tkb, tkc]; rfl); (next => exact fun _ _ _ h => h); (next => rfl))); (try simp only [Act.put, tkd, tke, tkf])
      refine tkY (i := 2) (oi := ?_) (v := ?_) ?_ (by kernel_rfl) ?_ ?_ ?_ (by assumption) ?_; rotate_left 2; (next => simp only [tka, tkb, tkc]; rfl); (next => exact fun _ _ _ h => h); (next => rfl); (next => intro w_ hSw; (try dsimp only at hSw); have k0 := (hSw.1.cell (p := ⟨w.heap.size, 0, none⟩) (by simp)).trans k0; go_simp; (try (with_reducible rfl))); (try simp only [Act.put, tkd, tke, tkf])
      (first | (refine tkY (i := 3) (oi := ?_) (v := ?_) ?_ (by kernel_rfl) ?_ ?_ ?_ (by assumption) ?_; rotate_left 2; (next => simp only [tka, tkb, tkc]; rfl); (next => exact fun _ _ _ h => h); (next => rfl); (next => intro w hSw; (try dsimp only at hSw); go_simp; (try (with_reducible rfl)))) | (refine tkN (i := 3) (oi := ?_) ?_ (by kernel_rfl) ?_ ?_ (by assumption) ?_; rotate_left 1; (next => simp only [tka, tkb, tkc]; rfl); (next => exact fun _ _ _ h => h); (next => rfl))); (try simp only [Act.put, tkd, tke, tkf])
      (first | (refine tkY (i := 4) (oi := ?_) (v := ?_) ?_ (by kernel_rfl) ?_ ?_ ?_ (by assumption) ?_; rotate_left 2; (next => simp only [tka, tkb, tkc]; rfl); (next => exact fun _ _ _ h => h); (next => rfl); (next => intro w hSw; (try dsimp only at hSw); go_simp; (try (with_reducible rfl)))) | (refine tkN (i := 4) (oi := ?_) ?_ (by kernel_rfl) ?_ ?_ (by assumption) ?_; rotate_left 1; (next => simp only [tka, tkb, tkc]; rfl); (next => exact fun _ _ _ h => h); (next => rfl))); (try simp only [Act.put, tkd, tke, tkf])
      refine tkY (i := 5) (oi := ?_) (v := ?_) ?_ (by kernel_rfl) ?_ ?_ ?_ (by assumption) ?_; rotate_left 2; (next => simp only [tka, tkb, tkc]; rfl); (next => exact fun _ _ _ h => h); (next => rfl); (next => intro w_ hSw; (try dsimp only at hSw); have e0 := (hSw.1.cell (p := ⟨g, q, none⟩) (by simp; omega)).trans e0; go_simp; (try (with_reducible rfl))); (try simp only [Act.put, tkd, tke, tkf])
      refine wpAnyH_ready (rs := [6]) (by kernel_rfl) (by simp) ?_; refine AllReadyH.cons (o := ?_) ?_ (fun K hK => ?_) AllReadyH.nil; rotate_left 1; (next => simp only [List.getElem?_toArray, List.getElem?_cons_succ, List.getElem?_cons_zero]; rfl); go_simp
      (go_at_call 177; (with_reducible refine (pen_atEnd _ _ _ _).mono ?_); rintro e u1 ⟨rfl, hb⟩)
      have S1 : Below wc.heap.size wc u1 := bl_call hb S0
      have c0 := keep_cell hb c0
      have c1' := keep_cell hb c1'
      have c2 := keep_cell hb c2
      clear hb
      (try go_wp2_with fail); refine hK.out _ _ (⟨S1.mono (Nat.le_of_lt lx), c0, c1', c2⟩) (fun hHeld => ?_); clear hK K; (try simp only [Act.put, List.setIfInBounds_toArray, List.set_cons_zero, List.set_cons_succ])
      refine wpAnyH_ready (rs := [7]) (by kernel_rfl) (by simp) ?_; refine AllReadyH.cons (o := ?_) ?_ (fun K hK => ?_) AllReadyH.nil; rotate_left 1; (next => simp only [List.getElem?_toArray, List.getElem?_cons_succ, List.getElem?_cons_zero]; rfl); go_simp
      (go_at_call 117; (with_reducible refine (HP.out z 0 0 _ (by omega) (by omega) (by omega) (by omega) (by omega) (by omega)).mono ?_); rintro e u2 ⟨rfl, hb⟩)
      have S2 : Below wc.heap.size wc u2 := bl_call hb S1
      have c0 := keep_cell hb c0
      have c1' := keep_cell hb c1'
      have c2 := keep_cell hb c2
      have r0 := keep_cell S2 r0
      have r1 := keep_cell S2 r1
      have r2 := keep_cell S2 r2
      have f0 := (S2.frozen (p := ⟨w.heap.size + 1, 0, none⟩) lx).trans f0
      have f1 := (S2.frozen (p := ⟨w.heap.size + 1, 1, none⟩) lx).trans f1
      have f2 := (S2.frozen (p := ⟨w.heap.size + 1, 2, none⟩) lx).trans f2
      clear hb
      (try go_wp2_with fail); refine hK.out _ _ (⟨S2.mono (Nat.le_of_lt lx), c0, c1', c2⟩) (fun hHeld => ?_); clear hK K; (try simp only [Act.put, List.setIfInBounds_toArray, List.set_cons_zero, List.set_cons_succ])
      refine wpAnyH_ready (rs := [8]) (by kernel_rfl) (by simp) ?_; refine AllReadyH.cons (o := ?_) ?_ (fun K hK => ?_) AllReadyH.nil; rotate_left 1; (next => simp only [List.getElem?_toArray, List.getElem?_cons_succ, List.getElem?_cons_zero]; rfl); go_simp
      (try go_wp2_with fail); refine hK.out _ _ (⟨((((S2.mono (Nat.le_of_lt lx)).setCell (Nat.le_refl _) _).setCell (Nat.le_refl _) _).setCell (Nat.le_refl _) _), keep_far3 c0 hrn, keep_far3 c1' hrn, keep_far3 c2 hrn⟩) (fun hHeld => ?_); clear hK K; (try simp only [Act.put, List.setIfInBounds_toArray, List.set_cons_zero, List.set_cons_succ])
      refine wpAnyH_done (by kernel_rfl) ?_ _
      go_wp2
      refine bodyPost_ret (v := gv (x0 - y0 + z) (x1 - y1) (x2 - y2)) (by simp [results, Try.results112, go_sem, *]) rfl ⟨rfl, bl_set (bl_set (bl_set (bl_call S2 HBC.out) (by simp) _) (by simp) _) (by simp) _⟩
end Go.Proofs.Ytafddofajfcffaa
