/- append of one number at a step of a region that draws its order. It speaks of no program. -/
import Derived.Test.YtlfhfbeacleggabILists
import Derived.Deep.RegionLaw
namespace Go.Proofs.Ytlfhfbeacleggab
open Go.ChangeShapes Go.WideShapes Go.ChangeAt Go.RowKit
set_option linter.unusedSimpArgs false
set_option linter.unusedVariables false

theorem step_append_int {P : Program} {ops : Array Oper} {o : Oper} {a : Act} {K : Act → World → Prop} {Q : Exit → Act → World → Prop} {E : Prop} {w : World} (hgd : o.guard = none) (s x : Operand) (t : TypeId)
    (ho : o.op = .call { callee := .builtin .append, args := #[s, x], argTypes := #[t, t] })
    (e : TypeId) (i : TypeInfo) (ht : P.underlying t = some (.slice e)) (hi : P.info? e = some i) (hz : i.zero = some (.int .i64 0)) (hsize : i.size = 1) (hby : i.bytes = 8)
    (B : Nat) (A : Option Addr) (c n : Nat) (l : List Int) (hs : a.eval s = .slice A n c) (hn : n = l.length) (hown : OL w e B A c l)
    (b : Nat) (z : Int) (hx : a.eval x = .slice (some ⟨b, 0, none⟩) 1 1) (hc : w.cell? ⟨b, 0, none⟩ = some (.int .i64 z)) (hlen : n ≤ 1000000000000) (hB : B ≤ w.heap.size)
    (h : ∀ A' c' w', OL w' e B A' c' (l ++ [z]) → Below B w w' → w.grownBy w' (Value.slice A n c).ownBlock → K (a.put o.dst (.slice A' (n + 1) c')) w') : if Region.wanted o (yielded ops a.tmps) = true then Oper.wp P o a w K Q else E := by
  subst hn
  refine step_append_lies w hgd s x t ho B e i (.int .i64 0) 1 8 ht hi hz hsize hby rfl (by decide) _ l.length (l.map (Value.int .i64)) hs hown ⟨b, 0, none⟩ 1 1 [.int .i64 z] hx rfl ?_ ?_ (by decide) (by unfold maxLen; omega) (by omega) hB _ rfl ?_
  · intro j u hj
    match j, hj with
    | 0, hj => simp at hj; subst hj; simpa [Addr.add] using hc
  · intro u hu; simp at hu; subst hu; rfl
  · intro g cap w' hown' hgr _ _
    obtain ⟨A', c', he, hl, hol⟩ := OL.of_own (l := l ++ [z]) hown' (by simp)
    injection he with he _ he2
    subst he2
    rw [he]
    exact h _ _ w' (he ▸ hol) ((Below.refl _ _).grown hgr hB (fun k hk => (hown.own_lt k hk).1)) hgr
end Go.Proofs.Ytlfhfbeacleggab
