/- append of one record to a slice of records that the call made. It speaks of no program. -/
import Derived.Test.YtlfhfbeacleggabFlat
namespace Go.Proofs.Ytlfhfbeacleggab
open Go.ChangeShapes Go.WideShapes Go.ChangeAt Go.RowKit
set_option linter.unusedSimpArgs false
set_option linter.unusedVariables false

section
variable {α : Type} [Rec α]
theorem TO.of_own {w : World} {B n : Nat} {e : TypeId} {v : Value} {xs : List Value} {L : List α} (h : w.ownsRow B e (Rec.size α) v n xs) (hx : xs = L.flatMap Rec.cells) : ∃ A c, v = .slice A n c ∧ n = L.length ∧ TO w e B A c L := by
  subst hx
  have hn : n = L.length := by
    have h1 := h.1
    rw [flat_len] at h1
    exact (Nat.eq_of_mul_eq_mul_right (Rec.pos (α := α)) h1).symm
  subst hn
  rcases h.2 with ⟨rfl, h1⟩ | ⟨g, cap, cur, rfl, h2⟩
  · have := List.eq_nil_of_length_eq_zero h1
    subst this
    exact ⟨none, 0, rfl, rfl, h⟩
  · exact ⟨_, _, rfl, rfl, h⟩
theorem TO.lit0 {w : World} {e : TypeId} {B : Nat} (hB : B ≤ w.heap.size) : TO (w.alloc (.cells #[] e)) e B (some ⟨w.heap.size, 0, none⟩) 0 ([] : List α) := by
  have := World.ownsRow_lit (base := B) (e := e) (size := Rec.size α) w #[] 0 hB (by unfold maxLen; omega) (by simp)
  unfold TO
  simpa using this

theorem wpList_append_rec {P : Program} {ops : Array Oper} {rest : List Oper} {o : Oper} {a : Act} {Q : Exit → Act → World → Prop} {w : World} (hgd : o.guard = none) (s x : Operand) (t : TypeId)
    (ho : o.op = .call { callee := .builtin .append, args := #[s, x], argTypes := #[t, t] })
    (e : TypeId) (i : TypeInfo) (zv : Value) (bytes : Nat) (ht : P.underlying t = some (.slice e)) (hi : P.info? e = some i) (hz : i.zero = some zv) (hsize : i.size = Rec.size α) (hby : i.bytes = bytes) (hzs : zv.cells.size = Rec.size α) (hbl : bytes ≤ 64)
    (B : Nat) (A : Option Addr) (c n : Nat) (L : List α) (hs : a.eval s = .slice A n c) (hn : n = L.length) (hown : TO w e B A c L)
    (b : Nat) (r : α) (hx : a.eval x = .slice (some ⟨b, 0, none⟩) 1 1) (h1 : ∀ u ∈ Rec.cells r, u.oneCell' = true) (hc : ∀ j, j < Rec.size α → w.cell? ⟨b, j, none⟩ = (Rec.cells r)[j]?) (hlen : n ≤ 1000000000000) (hB : B ≤ w.heap.size)
    (h : ∀ A' c' w', TO w' e B A' c' (L ++ [r]) → Below B w w' → w.grownBy w' (Value.slice A n c).ownBlock → wpList P ops Q rest (a.put o.dst (.slice A' (n + 1) c')) w') : wpList P ops Q (o :: rest) a w := by
  subst hn
  refine wpList_append_own w hgd s x t ho B e i zv (Rec.size α) bytes ht hi hz hsize hby hzs Rec.pos _ L.length (L.flatMap Rec.cells) hs hown ⟨b, 0, none⟩ 1 1 (Rec.cells r) hx (by rw [Rec.len, Nat.one_mul]) ?_ h1 (by unfold maxLen; omega) ?_ hB ?_
  · intro j u hj
    have hj2 : j < Rec.size α := by
      have := (List.getElem?_eq_some_iff.1 hj).1
      rwa [Rec.len] at this
    rw [← hj, ← hc j hj2]
    congr 1
    by_cases h0 : j = 0 <;> simp [Addr.add, h0]
  · have : (L.length + 1) * bytes ≤ (L.length + 1) * 64 := Nat.mul_le_mul_left _ hbl
    omega
  · intro v' w' hown' hgr _
    obtain ⟨A', c', rfl, hl, hol⟩ := TO.of_own (L := L ++ [r]) hown' (by simp)
    exact h A' c' w' hol ((Below.refl _ _).grown hgr hB (fun k hk => (hown.own_lt k hk).1)) hgr
end
end Go.Proofs.Ytlfhfbeacleggab
