/- append of one number inside a fence; own slices of numbers while a range over a function runs. It speaks of no program. -/
import Derived.OwnWalkIn
import Derived.Test.YtmncdpiojhgcdaaSb
namespace Go.Proofs.Ytmncdpiojhgcdaa
open Go.ChangeShapes Go.WideShapes Go.ChangeAt Go.RowKit
set_option linter.unusedVariables false

theorem wpListIn_append_int {F : Fence} {n0 : Nat} {P : Program} {ops : Array Oper} {rest : List Oper} {o : Oper} {a : Act} {Q : Exit → Act → World → Prop} {w : World} (hgd : o.guard = none) (s x : Operand) (t : TypeId)
    (ho : o.op = .call { callee := .builtin .append, args := #[s, x], argTypes := #[t, t] })
    (e : TypeId) (i : TypeInfo) (ht : P.underlying t = some (.slice e)) (hi : P.info? e = some i) (hz : i.zero = some (.int .i64 0)) (hsize : i.size = 1) (hby : i.bytes = 8)
    (B : Nat) (A : Option Addr) (c n : Nat) (l : List Int) (hs : a.eval s = .slice A n c) (hn : n = l.length) (hown : OL w e B A c l)
    (b : Nat) (z : Int) (hx : a.eval x = .slice (some ⟨b, 0, none⟩) 1 1) (hc : w.cell? ⟨b, 0, none⟩ = some (.int .i64 z)) (hlen : n ≤ 1000000000000) (hB : B ≤ w.heap.size)
    (h : ∀ A' c' w', OL w' e B A' c' (l ++ [z]) → Below B w w' → w.grownBy w' (Value.slice A n c).ownBlock → wpListIn F n0 P ops Q rest (a.put o.dst (.slice A' (n + 1) c')) w') : wpListIn F n0 P ops Q (o :: rest) a w := by
  subst hn
  refine wpListIn_append_own w hgd s x t ho B e i (.int .i64 0) 1 8 ht hi hz hsize hby rfl (by decide) _ l.length (l.map (Value.int .i64)) hs hown ⟨b, 0, none⟩ 1 1 [.int .i64 z] hx rfl ?_ ?_ (by unfold maxLen; omega) (by omega) hB ?_
  · intro j u hj
    match j, hj with
    | 0, hj => simp at hj; subst hj; simpa [Addr.add] using hc
  · intro u hu; simp at hu; subst hu; rfl
  · intro v' w' hown' hgr _
    obtain ⟨A', c', rfl, hl, hol⟩ := OL.of_own (l := l ++ [z]) hown' (by simp)
    exact h A' c' w' hol ((Below.refl _ _).grown hgr hB (fun k hk => (hown.own_lt k hk).1)) hgr
theorem OL.keptN {w w' : World} {e : TypeId} {B c : Nat} {A : Option Addr} {l : List Int} {row : Option Nat} (h : OL w e B A c l) (hg : w.grownBy w' row) (hr : ∀ r, row = some r → ∃ o : Obj, w.heap[r]? = some o ∧ o.isCells = false) : OL w' e B A c l :=
  h.kept hg (fun k hk e => by
    obtain ⟨o, ho, hc⟩ := hr k e
    rcases h.2 with ⟨h0, _⟩ | ⟨g, cap, cur, h1, h2, h3, _⟩
    · rw [h0] at hk; cases hk
    · rw [h1] at hk
      cases hk
      rw [h3] at ho
      cases ho
      cases hc)
theorem ko_grownL {w W : World} {e : TypeId} {B c : Nat} {A : Option Addr} {l : List Int} (ho : OL w e B A c l) (hg : w.grownBy W (Value.slice A l.length c).ownBlock) : KeepsOthers w W :=
  ⟨hg.size, fun k o hk hc => by
    refine (hg.block k (Array.getElem?_eq_some_iff.1 hk).1 (fun e => ?_)).trans hk
    rcases ho.2 with ⟨h0, _⟩ | ⟨g, cap, cur, h1, h2, h3, _⟩
    · rw [h0] at e; cases e
    · rw [h1] at e
      cases e
      rw [h3] at hk
      cases hk
      cases hc⟩
/-- A box far below the own slice keeps it. -/
theorem OL.box {u : World} {e : TypeId} {B b j c : Nat} {A : Option Addr} {l : List Int} (h : OL u e B A c l) (hb : b < B) (v : Value) : OL (u.setCell ⟨b, j, none⟩ v) e B A c l :=
  h.kept (row := some b) (on_set' (World.grownBy.refl _ _) (.inl rfl) _) (fun k hk e => by
    have := (h.own_lt k hk).1
    cases e
    omega)
/-- A cell of a box below the own slice, over its growing. -/
theorem box_grown {u v : World} {e : TypeId} {B b j c n : Nat} {A : Option Addr} {l : List Int} {x : Value} (h : OL u e B A c l) (hn : n = l.length) (hg : u.grownBy v (Value.slice A n c).ownBlock) (hb : b < B) (hc : u.cell? ⟨b, j, none⟩ = some x) : v.cell? ⟨b, j, none⟩ = some x ∧ v.frozen? ⟨b, j, none⟩ = u.frozen? ⟨b, j, none⟩ := by
  subst hn
  have hl := World.block_lt_of_cell? u _ hc
  have hne : some b ≠ (Value.slice A l.length c).ownBlock := fun e => by
    have := (h.own_lt b e.symm).1
    omega
  exact ⟨(hg.cell_far ⟨b, j, none⟩ hl hne).trans hc, hg.frozen_far ⟨b, j, none⟩ hl hne⟩
end Go.Proofs.Ytmncdpiojhgcdaa
