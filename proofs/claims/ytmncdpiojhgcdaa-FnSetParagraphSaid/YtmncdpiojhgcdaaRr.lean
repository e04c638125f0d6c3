/- Slices of slices of integers, each its own row. -/
import Derived.Maps.AppendAt
import Derived.Test.YtmncdpiojhgcdaaSa
import Derived.Test.YtmncdpiojhgcdaaApI
import Derived.Test.YtmncdpiojhgcdaaFf
import Derived.Test.YtmncdpiojhgcdaaRgR
namespace Go.Proofs.Ytmncdpiojhgcdaa
open Go.ChangeShapes Go.WideShapes Go.ChangeAt Go.RowKit
set_option linter.unusedVariables false

theorem ints_info : (Try.prog.info? 30).map (fun i => (i.zero, i.size, i.bytes)) = some (some (.slice none 0 0), 1, 24) := by kernel_rfl
/-- The i-th value, the i-th list. -/
def vgR (V : List Value) (i : Nat) : Value := (V[i]?).getD undef
def lgR (S : List (List Int)) (i : Nat) : List Int := (S[i]?).getD []
theorem vgR_app {V U : List Value} {i : Nat} (h : i < V.length) : vgR (V ++ U) i = vgR V i := by simp [vgR, List.getElem?_append_left h]
theorem vgR_last {V : List Value} {v : Value} {i : Nat} (h : i = V.length) : vgR (V ++ [v]) i = v := by subst h; simp [vgR]
theorem lgR_app {V U : List (List Int)} {i : Nat} (h : i < V.length) : lgR (V ++ U) i = lgR V i := by simp [lgR, List.getElem?_append_left h]
theorem lgR_last {V : List (List Int)} {v : List Int} {i : Nat} (h : i = V.length) : lgR (V ++ [v]) i = v := by subst h; simp [lgR]
/-- Slices that are own rows, each in its block. -/
structure RV (w : World) (B : Nat) (V : List Value) (S : List (List Int)) : Prop where
  len : V.length = S.length
  own : ∀ i, i < S.length → ∃ A c, vgR V i = .slice A (lgR S i).length c ∧ OL w 3 B A c (lgR S i)
  dis : ∀ i j, i < j → j < S.length → ∀ k, (vgR V i).ownBlock = some k → (vgR V j).ownBlock ≠ some k
theorem RV.lt {w : World} {B : Nat} {V : List Value} {S : List (List Int)} (h : RV w B V S) {i : Nat} (hi : i < S.length) : ∀ k, (vgR V i).ownBlock = some k → B ≤ k ∧ k < w.heap.size := fun k hk => by
  obtain ⟨A, c, e, ho⟩ := h.own i hi
  rw [e] at hk
  exact ho.own_lt k hk
theorem RV.put {w w' : World} {B : Nat} {V : List Value} {S : List (List Int)} (h : RV w B V S) (hk : ∀ i, i < S.length → ∀ k, (vgR V i).ownBlock = some k → w'.heap[k]? = w.heap[k]?) : RV w' B V S :=
  ⟨h.len, fun i hi => by
    obtain ⟨A, c, e, ho⟩ := h.own i hi
    exact ⟨A, c, e, own_blk ho (fun k q => hk i hi k (by rw [e]; exact q))⟩, h.dis⟩
/-- An own row of such slices. -/
def RR (w : World) (B : Nat) (A : Option Addr) (c : Nat) (V : List Value) (S : List (List Int)) : Prop :=
  w.ownsRow B 30 1 (.slice A S.length c) S.length V ∧ RV w B V S ∧ ∀ i, i < S.length → ∀ k, (Value.slice A S.length c).ownBlock = some k → (vgR V i).ownBlock ≠ some k
section
variable {w w' : World} {B c : Nat} {A : Option Addr} {V : List Value} {S : List (List Int)}
theorem RR.nil (w : World) (B : Nat) : RR w B none 0 [] [] := ⟨World.ownsRow_nil _ _ _ _, ⟨rfl, fun i hi => absurd hi (Nat.not_lt_zero i), fun i j _ hj => absurd hj (Nat.not_lt_zero j)⟩, fun i hi => absurd hi (Nat.not_lt_zero i)⟩
theorem RR.lt (h : RR w B A c V S) : ∀ k, (Value.slice A S.length c).ownBlock = some k → B ≤ k ∧ k < w.heap.size := fun k hk => World.ownsRow.lt h.1 k hk
theorem RR.put (h : RR w B A c V S) (hk : ∀ k, B ≤ k → k < w.heap.size → ((Value.slice A S.length c).ownBlock = some k ∨ ∃ i, i < S.length ∧ (vgR V i).ownBlock = some k) → w'.heap[k]? = w.heap[k]?) : RR w' B A c V S :=
  ⟨own_blk h.1 (fun k q => hk k (h.lt k q).1 (h.lt k q).2 (.inl q)), h.2.1.put (fun i hi k q => hk k (h.2.1.lt hi k q).1 (h.2.1.lt hi k q).2 (.inr ⟨i, hi, q⟩)), h.2.2⟩
theorem RR.below (h : RR w B A c V S) (hb : Below w.heap.size w w') : RR w' B A c V S := h.put (fun k _ hk _ => hb.block k hk)
theorem RR.more {B0 : Nat} (h : RR w B A c V S) (hB : B0 ≤ B) : RR w B0 A c V S := by
  refine ⟨?_, ⟨h.2.1.len, fun i hi => ?_, h.2.1.dis⟩, h.2.2⟩
  · refine ⟨h.1.1, ?_⟩
    rcases h.1.2 with h0 | ⟨g, cap, cur, h1, h2, h3⟩
    · exact .inl h0
    · exact .inr ⟨g, cap, cur, h1, by omega, h3⟩
  · obtain ⟨A1, c1, e, ho⟩ := h.2.1.own i hi
    exact ⟨A1, c1, e, ho.more hB⟩
theorem RR.alloc (h : RR w B A c V S) (o : Obj) : RR (w.alloc o) B A c V S := h.below (bl_alloc (bl_refl _) _)
theorem RR.box {b j : Nat} (h : RR w B A c V S) (hb : b < B) (v : Value) : RR (w.setCell ⟨b, j, none⟩ v) B A c V S :=
  h.put (fun k h1 h2 _ => (on_set' (World.grownBy.refl _ _) (.inl rfl) _ : w.grownBy (w.setCell ⟨b, j, none⟩ v) (some b)).block k h2 (fun e => by have e2 := Option.some.inj e; dsimp only at e2; omega))
theorem own_isCells {size n : Nat} {e : TypeId} {v : Value} {xs : List Value} (h : w.ownsRow B e size v n xs) {k : Nat} {o : Obj} (hk : v.ownBlock = some k) (ho : w.heap[k]? = some o) : o.isCells = true := by
  rcases h.2 with ⟨h0, _⟩ | ⟨g, cap, cur, h1, h2, h3, _⟩
  · rw [h0] at hk; cases hk
  · rw [h1] at hk
    cases hk
    rw [h3] at ho
    cases ho
    rfl
theorem ko_grownR {size n : Nat} {e : TypeId} {v : Value} {xs : List Value} (h : w.ownsRow B e size v n xs) (hg : w.grownBy w' v.ownBlock) : KeepsOthers w w' :=
  ⟨hg.size, fun k o hk hc => (hg.block k (Array.getElem?_eq_some_iff.1 hk).1 (fun q => by rw [own_isCells h q.symm hk] at hc; cases hc)).trans hk⟩
theorem RR.keptN {row : Option Nat} (h : RR w B A c V S) (hg : w.grownBy w' row) (hr : ∀ r, row = some r → ∃ o : Obj, w.heap[r]? = some o ∧ o.isCells = false) : RR w' B A c V S :=
  h.put (fun k _ h2 q => hg.block k h2 (fun e => by
    obtain ⟨o, ho, hc⟩ := hr k e.symm
    rcases q with q | ⟨i, hi, q⟩
    · rw [own_isCells h.1 q ho] at hc; cases hc
    · obtain ⟨A1, c1, e1, h1⟩ := h.2.1.own i hi
      rw [e1] at q
      rw [own_isCells h1 q ho] at hc; cases hc))
theorem RR.push {B' c2 : Nat} {A2 : Option Addr} {l : List Int} {v' : Value} (h : RR w B A c V S) (hl : OL w 3 B' A2 c2 l) (hB : B ≤ B') (hbel : ∀ k, B ≤ k → ((Value.slice A S.length c).ownBlock = some k ∨ ∃ i, i < S.length ∧ (vgR V i).ownBlock = some k) → k < B')
    (ho : w'.ownsRow B 30 1 v' (S.length + 1) (V ++ [.slice A2 l.length c2])) (hg : w.grownBy w' (Value.slice A S.length c).ownBlock) (hv : v'.ownBlock = (Value.slice A S.length c).ownBlock ∨ v'.ownBlock = some w.heap.size) :
    ∃ A' c', v' = .slice A' (S.length + 1) c' ∧ RR w' B A' c' (V ++ [.slice A2 l.length c2]) (S ++ [l]) := by
  have e0 : (S ++ [l]).length = S.length + 1 := by simp
  obtain ⟨A', c', rfl⟩ : ∃ A' c', v' = .slice A' (S.length + 1) c' := by
    rcases ho.2 with ⟨_, h0⟩ | ⟨g, cap, cur, h1, _⟩
    · omega
    · exact ⟨_, _, h1⟩
  have far : ∀ k, k < w.heap.size → (Value.slice A S.length c).ownBlock ≠ some k → w'.heap[k]? = w.heap[k]? := fun k h1 h2 => hg.block k h1 (fun e => h2 e.symm)
  have old := h.2.1.put (w' := w') (fun i hi k q => far k (h.2.1.lt hi k q).2 (fun e => h.2.2 i hi k e q))
  have new : OL w' 3 B' A2 c2 l := own_blk hl (fun k q => far k (hl.own_lt k q).2 (fun e => by
    have a1 := (hl.own_lt k q).1
    have a2 := hbel k (h.lt k e).1 (.inl e)
    omega))
  refine ⟨A', c', rfl, by rw [e0]; exact ho, ⟨by simp [h.2.1.len], fun i hi => ?_, fun i j hij hj k q1 q2 => ?_⟩, fun i hi k q1 q2 => ?_⟩
  · rcases (by omega : i < S.length ∨ i = S.length) with q | q
    · rw [vgR_app (by rw [h.2.1.len]; exact q), lgR_app q]
      exact old.own i q
    · rw [vgR_last (by rw [h.2.1.len]; exact q), lgR_last q]
      exact ⟨A2, c2, rfl, new.more hB⟩
  · rw [vgR_app (by rw [h.2.1.len]; omega)] at q1
    rcases (by omega : j < S.length ∨ j = S.length) with q | q
    · rw [vgR_app (by rw [h.2.1.len]; exact q)] at q2
      exact h.2.1.dis i j hij q k q1 q2
    · rw [vgR_last (by rw [h.2.1.len]; exact q)] at q2
      have a1 := (hl.own_lt k q2).1
      have a2 := hbel k (h.2.1.lt (by omega) k q1).1 (.inr ⟨i, by omega, q1⟩)
      omega
  · rw [e0] at q1
    rcases (by omega : i < S.length ∨ i = S.length) with q | q
    · rw [vgR_app (by rw [h.2.1.len]; exact q)] at q2
      rcases hv with hv | hv
      · rw [hv] at q1
        exact h.2.2 i q k q1 q2
      · rw [hv] at q1
        cases q1
        have := (h.2.1.lt q _ q2).2
        omega
    · rw [vgR_last (by rw [h.2.1.len]; exact q)] at q2
      have a1 := hl.own_lt k q2
      rcases hv with hv | hv
      · rw [hv] at q1
        have a2 := hbel k (h.lt k q1).1 (.inl q1)
        omega
      · rw [hv] at q1
        cases q1
        omega
end

/-- append of one slice, in a drawn region inside a fence. -/
theorem step_append_cell {F : Fence} {n : Nat} {P : Program} {o : Oper} {a : Act} {w : World} {K : Act → World → Prop} {Q : Exit → Act → World → Prop} {Y : Prop} [Decidable Y] {Z : Prop} (hY : Y) (s x : Operand) (t : TypeId)
    (ho : o.op = .call { callee := .builtin .append, args := #[s, x], argTypes := #[t, t] })
    (B : Nat) (e : TypeId) (i : TypeInfo) (zv : Value) (by_ : Nat) (ht : P.underlying t = some (.slice e)) (hi : P.info? e = some i) (hz : i.zero = some zv) (hsize : i.size = 1) (hby : i.bytes = by_) (hb1 : by_ ≤ 24) (hzs : zv.cells.size = 1)
    (v : Value) (k : Nat) (xs : List Value) (hs : a.eval s = v) (hown : w.ownsRow B e 1 v k xs) (b : Nat) (y : Value) (hx : a.eval x = .slice (some ⟨b, 0, none⟩) 1 1) (hc : w.cell? ⟨b, 0, none⟩ = some y) (hy : y.oneCell' = true)
    (hlen : k ≤ 1000000000) (hB : B ≤ w.heap.size)
    (h : ∀ v' w', w'.ownsRow B e 1 v' (k + 1) (xs ++ [y]) → w.grownBy w' v.ownBlock → (v'.ownBlock = v.ownBlock ∨ v'.ownBlock = some w.heap.size) → K (a.put o.dst v') w') : if Y then Oper.wpIn F n P o a w K Q else Z := by
  rw [if_pos hY]
  obtain ⟨v', w', hr, h2, h3, _, h5⟩ := run_append_own_at (P := P) (w := w) B t o.type e i zv 1 by_ ht hi hz hsize hby hzs (by decide) v k xs hown ⟨b, 0, none⟩ 1 1 [y] rfl (fun j u hj => by
    match j, hj with
    | 0, hj => simp at hj; subst hj; simpa [Addr.add] using hc) (fun u hu => by simp at hu; subst hu; exact hy) (by unfold maxLen; omega) (by
      have : (k + 1) * by_ ≤ (k + 1) * 24 := Nat.mul_le_mul_left _ hb1
      omega) hB
  unfold Oper.wpIn
  refine ⟨by simp [Oper.about, ho, resolve, Target.leads, Sem.run_pure], ?_⟩
  rw [Oper.semAt_plain F _ _ (by rw [ho]; intro c hc'; cases hc')]
  simp [execOp, ho, resolve, invoke, builtin, hs, hx, hr, Result.andThen]
  exact h v' w' h2 h3 h5
theorem RR.lit0 (w : World) : RR (w.alloc (.cells #[] 30)) w.heap.size (some ⟨w.heap.size, 0, none⟩) 0 [] [] := by
  refine ⟨?_, (RR.nil w w.heap.size).2.1.put (fun i hi => absurd hi (Nat.not_lt_zero i)), fun i hi => absurd hi (Nat.not_lt_zero i)⟩
  have := World.ownsRow_lit (base := w.heap.size) (e := 30) (size := 1) w #[] 0 (Nat.le_refl _) (Nat.zero_le _) (by simp)
  simpa using this
/-- append of one slice to such a row. -/
theorem wpList_append_rr {P : Program} {ops : Array Oper} {rest : List Oper} {o : Oper} {a : Act} {Q : Exit → Act → World → Prop} {w : World} (hgd : o.guard = none) (s x : Operand) (t : TypeId)
    (ho : o.op = .call { callee := .builtin .append, args := #[s, x], argTypes := #[t, t] })
    (i : TypeInfo) (ht : P.underlying t = some (.slice 30)) (hi : P.info? 30 = some i) (hz : i.zero = some (.slice none 0 0)) (hsize : i.size = 1) (hby : i.bytes = 24)
    (B : Nat) (A : Option Addr) (c n : Nat) (V : List Value) (S : List (List Int)) (hs : a.eval s = .slice A n c) (hn : n = S.length) (hR : RR w B A c V S)
    (b : Nat) (A2 : Option Addr) (c2 : Nat) (l : List Int) (hx : a.eval x = .slice (some ⟨b, 0, none⟩) 1 1) (hc : w.cell? ⟨b, 0, none⟩ = some (.slice A2 l.length c2)) (B' : Nat) (hl : OL w 3 B' A2 c2 l) (hBB : B ≤ B')
    (hbel : ∀ k, B ≤ k → ((Value.slice A S.length c).ownBlock = some k ∨ ∃ i, i < S.length ∧ (vgR V i).ownBlock = some k) → k < B') (hlen : n ≤ 1000000000) (hB : B ≤ w.heap.size)
    (h : ∀ A' c' w', RR w' B A' c' (V ++ [.slice A2 l.length c2]) (S ++ [l]) → Below B w w' → wpList P ops Q rest (a.put o.dst (.slice A' (n + 1) c')) w') : wpList P ops Q (o :: rest) a w := by
  subst hn
  refine wpList_append_own_at w hgd s x t ho B 30 i (.slice none 0 0) 1 24 ht hi hz hsize hby rfl (by decide) (.slice A S.length c) S.length V hs hR.1 ⟨b, 0, none⟩ 1 1 [.slice A2 l.length c2] hx rfl (fun j u hj => by
    match j, hj with
    | 0, hj => simp at hj; subst hj; simpa [Addr.add] using hc) (fun u hu => by simp at hu; subst hu; rfl) (by unfold maxLen; omega) (by omega) hB ?_
  intro v' w' hown hg _ hv
  obtain ⟨A', c', rfl, hrr⟩ := RR.push hR hl hBB hbel hown hg hv
  exact h A' c' w' hrr ((Below.refl _ _).grown hg hB (fun j hj => (hR.lt j hj).1))
end Go.Proofs.Ytmncdpiojhgcdaa
