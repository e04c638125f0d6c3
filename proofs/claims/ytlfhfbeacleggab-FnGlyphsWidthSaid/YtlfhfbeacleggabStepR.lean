/- append of one record at a step of a region that draws its order; records of four integers. It speaks of no program. -/
import Derived.Test.YtlfhfbeacleggabRecA
import Derived.Test.YtlfhfbeacleggabSp
import Derived.Deep.RegionLaw
namespace Go.Proofs.Ytlfhfbeacleggab
open Go.ChangeShapes Go.WideShapes Go.ChangeAt Go.RowKit
set_option linter.unusedSimpArgs false
set_option linter.unusedVariables false

theorem step_append_rec {α : Type} [Rec α] {P : Program} {ops : Array Oper} {o : Oper} {a : Act} {K : Act → World → Prop} {Q : Exit → Act → World → Prop} {E : Prop} {w : World} (hgd : o.guard = none) (s x : Operand) (t : TypeId)
    (ho : o.op = .call { callee := .builtin .append, args := #[s, x], argTypes := #[t, t] })
    (e : TypeId) (i : TypeInfo) (zv : Value) (bytes : Nat) (ht : P.underlying t = some (.slice e)) (hi : P.info? e = some i) (hz : i.zero = some zv) (hsize : i.size = Rec.size α) (hby : i.bytes = bytes) (hzs : zv.cells.size = Rec.size α) (hbl : bytes ≤ 64)
    (B : Nat) (A : Option Addr) (c n : Nat) (L : List α) (hs : a.eval s = .slice A n c) (hn : n = L.length) (hown : TO w e B A c L)
    (b : Nat) (r : α) (hx : a.eval x = .slice (some ⟨b, 0, none⟩) 1 1) (h1 : ∀ u ∈ Rec.cells r, u.oneCell' = true) (hc : ∀ j, j < Rec.size α → w.cell? ⟨b, j, none⟩ = (Rec.cells r)[j]?) (hlen : n ≤ 1000000000000) (hB : B ≤ w.heap.size) (H : Nat) (hH : w.heap.size = H)
    (h : ∀ g' c' w', TO w' e B (some ⟨g', 0, none⟩) c' (L ++ [r]) → Below B w w' → w.grownBy w' (Value.slice A n c).ownBlock → ((Value.slice A n c).ownBlock = some g' ∨ g' = H) → g' < w'.heap.size → K (a.put o.dst (.slice (some ⟨g', 0, none⟩) (n + 1) c')) w') : if Region.wanted o (yielded ops a.tmps) = true then Oper.wp P o a w K Q else E := by
  subst hn
  refine step_append_lies w hgd s x t ho B e i zv (Rec.size α) bytes ht hi hz hsize hby hzs Rec.pos _ L.length (L.flatMap Rec.cells) hs hown ⟨b, 0, none⟩ 1 1 (Rec.cells r) hx (by rw [Rec.len, Nat.one_mul]) ?_ h1 (by decide) (by unfold maxLen; omega) ?_ hB H hH ?_
  · intro j u hj
    have hj2 : j < Rec.size α := by
      have := (List.getElem?_eq_some_iff.1 hj).1
      rwa [Rec.len] at this
    rw [← hj, ← hc j hj2]
    congr 1
    by_cases h0 : j = 0 <;> simp [Addr.add, h0]
  · have : (L.length + 1) * bytes ≤ (L.length + 1) * 64 := Nat.mul_le_mul_left _ hbl
    omega
  · intro g' cap w' hown' hgr hat hlt
    obtain ⟨A', c', he, hl, hol⟩ := TO.of_own (L := L ++ [r]) hown' (by simp)
    injection he with he _ he2
    subst he2
    subst he
    exact h g' _ w' hol ((Below.refl _ _).grown hgr hB (fun k hk => (hown.own_lt k hk).1)) hgr hat hlt
/-- A way: its place, its pieces, its cost, the way before it. -/
structure Wy where
  a : Int
  p : Int
  c : Int
  b : Int
instance : Rec Wy := ⟨4, by decide, fun x => [.int .i64 x.a, .int .i64 x.p, .int .i64 x.c, .int .i64 x.b], fun _ => rfl, ⟨0, 0, 0, 0⟩⟩
abbrev wyv (x : Wy) : Value := .agg #[.int .i64 x.a, .int .i64 x.p, .int .i64 x.c, .int .i64 x.b]
theorem TL.at4 {w : World} {A : Option Addr} {n : Nat} {L : List Wy} (h : TL w A n L) {i : Nat} (hi : i < n) : ∃ b o, A = some ⟨b, o, none⟩ ∧ b < w.heap.size ∧ w.cell? ⟨b, o + i * 4, none⟩ = some (.int .i64 (tg L i).a) ∧ w.cell? ⟨b, o + i * 4 + 1, none⟩ = some (.int .i64 (tg L i).p) ∧ w.cell? ⟨b, o + i * 4 + 2, none⟩ = some (.int .i64 (tg L i).c) ∧ w.cell? ⟨b, o + i * 4 + 3, none⟩ = some (.int .i64 (tg L i).b) := by
  obtain ⟨b, o, e, hb, hc⟩ := h.at_ hi
  exact ⟨b, o, e, hb, hc 0 (by decide), hc 1 (by decide), hc 2 (by decide), hc 3 (by decide)⟩
theorem ones4 (x : Wy) : ∀ u ∈ Rec.cells x, u.oneCell' = true := by
  intro u hu
  simp [Rec.cells] at hu
  rcases hu with rfl | rfl | rfl | rfl <;> rfl
theorem tgW_set {L : List Wy} {i j : Nat} {x : Wy} (hj : j < L.length) : tg (L.set i x) j = if i = j then x else tg L j := by
  rw [tg_lt (by simpa using hj), List.getElem_set, tg_lt hj]
theorem flat_set4 {L : List Wy} {i j : Nat} {x : Wy} {v : Value} (hi : i < L.length) (hj : j < 4) (hx : Rec.cells x = (Rec.cells (tg L i)).set j v) : (L.flatMap Rec.cells).set (i * 4 + j) v = (L.set i x).flatMap Rec.cells := by
  have hl : (L.flatMap Rec.cells).length = L.length * 4 := flat_len L
  have hl2 : ((L.set i x).flatMap Rec.cells).length = L.length * 4 := by have := flat_len (L.set i x); rw [List.length_set] at this; exact this
  apply List.ext_getElem?
  intro m
  by_cases hm : m < L.length * 4
  · obtain ⟨q, r, hr, rfl⟩ : ∃ q r, r < 4 ∧ m = q * 4 + r := ⟨m / 4, m % 4, Nat.mod_lt _ (by omega), by omega⟩
    have hq : q < L.length := by omega
    have e1 := flat_get (L.set i x) (i := q) (j := r) (by rw [List.length_set]; exact hq) (show r < Rec.size Wy from hr)
    have e2 := flat_get L (i := q) (j := r) hq (show r < Rec.size Wy from hr)
    rw [tgW_set hq] at e1
    change (List.flatMap Rec.cells (L.set i x))[q * 4 + r]? = _ at e1
    change (List.flatMap Rec.cells L)[q * 4 + r]? = _ at e2
    rw [e1, List.getElem?_set, hl]
    by_cases e : i = q
    · subst e
      rw [if_pos rfl, hx, List.getElem?_set]
      have hcl : (Rec.cells (tg L i)).length = 4 := Rec.len _
      by_cases e3 : j = r
      · subst e3
        rw [if_pos rfl, if_pos (by omega), if_pos rfl, if_pos (by omega)]
      · rw [if_neg (by omega), if_neg e3, e2]
    · rw [if_neg (by omega), if_neg e, e2]
  · rw [List.getElem?_eq_none (by rw [List.length_set]; omega), List.getElem?_eq_none (by omega)]
theorem TO.set4 {w : World} {e : TypeId} {B g c : Nat} {L : List Wy} (h : TO w e B (some ⟨g, 0, none⟩) c L) {i j : Nat} {x : Wy} {v : Value} (hi : i < L.length) (hj : j < 4) (hx : Rec.cells x = (Rec.cells (tg L i)).set j v) : TO (w.setCell ⟨g, i * 4 + j, none⟩ v) e B (some ⟨g, 0, none⟩) c (L.set i x) := by
  have s0 := (World.ownsRow.stored h (i * 4 + j) v).1
  rw [flat_set4 hi hj hx] at s0
  unfold TO
  rw [List.length_set]
  exact s0
/-- A store of a whole way. -/
theorem TO.put4 {w : World} {e : TypeId} {B g c : Nat} {L : List Wy} (h : TO w e B (some ⟨g, 0, none⟩) c L) {i : Nat} (x : Wy) (hi : i < L.length) :
    TO ((((w.setCell ⟨g, i * 4, none⟩ (.int .i64 x.a)).setCell ⟨g, i * 4 + 1, none⟩ (.int .i64 x.p)).setCell ⟨g, i * 4 + 2, none⟩ (.int .i64 x.c)).setCell ⟨g, i * 4 + 3, none⟩ (.int .i64 x.b)) e B (some ⟨g, 0, none⟩) c (L.set i x) := by
  obtain ⟨y, hy⟩ : ∃ y, y = tg L i := ⟨_, rfl⟩
  have h1 := h.set4 (j := 0) (x := ⟨x.a, y.p, y.c, y.b⟩) (v := .int .i64 x.a) hi (by decide) (by rw [← hy]; rfl)
  have h2 := h1.set4 (i := i) (j := 1) (x := ⟨x.a, x.p, y.c, y.b⟩) (v := .int .i64 x.p) (by rw [List.length_set]; exact hi) (by decide) (by rw [tgW_set hi, if_pos rfl]; rfl)
  rw [List.set_set] at h2
  have h3 := h2.set4 (i := i) (j := 2) (x := ⟨x.a, x.p, x.c, y.b⟩) (v := .int .i64 x.c) (by rw [List.length_set]; exact hi) (by decide) (by rw [tgW_set hi, if_pos rfl]; rfl)
  rw [List.set_set] at h3
  have h4 := h3.set4 (i := i) (j := 3) (x := x) (v := .int .i64 x.b) (by rw [List.length_set]; exact hi) (by decide) (by rw [tgW_set hi, if_pos rfl]; rfl)
  rw [List.set_set] at h4
  exact h4
end Go.Proofs.Ytlfhfbeacleggab
