/- Several texts of one claim, one behind the other. -/
import Derived.WalkKit
import Derived.ProofKit
import Derived.OpenShut
import Derived.Lib.Hide
import Derived.Deep.QuietTactic
import Derived.BigQuiet
import Derived.Deep.Draws
import Derived.Deep.OwnRows
import Derived.OwnWalk
import Derived.Laws.OwnMore
import Derived.Deep.AppendLies
import Derived.Below
import Derived.Deep.RegionHeld3
import Derived.Test.YtmncdpiojhgcdaaRows
import Derived.ShutString
import Derived.ChangeOld
import Derived.Carry
import Derived.Lib.SmallJoins
import Derived.RangeFuncWrites
import Derived.RangeFuncBox
import Derived.RangeFuncLeaves
import Derived.RangeFuncBound
import Derived.RangeFuncCalls
import Derived.Shelf.Abstract
import Derived.LoopTactic
import Derived.OwnWalkIn
import Derived.TacticsInMore
import Derived.LoopNIn
import Derived.LoopIn
/- Small lemmas that every walk of this repo uses. They speak of no program. -/
namespace Go.Proofs.Ytmncdpiojhgcdaa
open Go.ChangeShapes Go.WideShapes Go.ChangeAt Go.RowKit

section
variable {w W w1 : World} {B : Nat}
theorem bl_refl (w : World) : Below w.heap.size w w := Below.refl _ _
theorem bl_alloc (h : Below w.heap.size w W) (o : Obj) : Below w.heap.size w (W.alloc o) := h.alloc h.size o
theorem bl_set (h : Below w.heap.size w W) {p : Addr} (hp : w.heap.size ≤ p.block) (v : Value) : Below w.heap.size w (W.setCell p v) := h.setCell hp v
theorem bl_drew (h : Below w.heap.size w W) : Below w.heap.size w W.drew := ⟨h.os, h.tape, h.output, h.size, h.block⟩
theorem bl_drewN (h : Below w.heap.size w W) (n : Nat) : Below w.heap.size w (W.drewN n) := ⟨h.os, h.tape, h.output, h.size, h.block⟩
theorem bl_undrew (h : Below W.drew.heap.size W.drew w1) : Below W.heap.size W w1 := ⟨h.os, h.tape, h.output, h.size, h.block⟩
theorem bl_call (h : Below W.heap.size W w1) (h0 : Below w.heap.size w W) : Below w.heap.size w w1 := h0.trans (h.mono h0.size)
theorem bl_sz (h : Below W.heap.size W w1) : W.heap.size ≤ w1.heap.size := h.size
theorem bl_lt (h : Below W.heap.size W w1) : ∀ x, x < W.heap.size → x < w1.heap.size := fun _ hx => Nat.lt_of_lt_of_le hx h.size
theorem keep_cell (h : Below W.heap.size W w1) {p : Addr} {v : Value} (hc : W.cell? p = some v) : w1.cell? p = some v := (h.cell (World.block_lt_of_cell? W _ hc)).trans hc
theorem keep_alloc {p : Addr} {v : Value} (hc : W.cell? p = some v) (o : Obj) : (W.alloc o).cell? p = some v := (World.cell?_alloc_lt W o p (World.block_lt_of_cell? W _ hc)).trans hc
theorem keep_set {p q : Addr} {v : Value} (hc : W.cell? p = some v) (hne : p ≠ q) (u : Value) : (W.setCell q u).cell? p = some v := (World.cell?_setCell_other W q p u (Ne.symm hne)).trans hc
theorem keep_box3 {p : Addr} {v : Value} (hc : W.cell? p = some v) (o : Obj) (a b c : Value) : ((((W.alloc o).setCell ⟨W.heap.size, 0, none⟩ a).setCell ⟨W.heap.size, 1, none⟩ b).setCell ⟨W.heap.size, 2, none⟩ c).cell? p = some v := by
  have hl := World.block_lt_of_cell? W _ hc
  refine keep_set (keep_set (keep_set (keep_alloc hc o) ?_ _) ?_ _) ?_ _
  all_goals
    intro e
    subst e
    simp at hl
theorem keep_swap {p : Addr} {v : Value} {o : Obj} (hc : (W.alloc o).cell? p = some v) (hl : p.block < W.heap.size) (o' : Obj) : (W.alloc o').cell? p = some v :=
  ((World.cell?_alloc_lt W o' p hl).trans (World.cell?_alloc_lt W o p hl).symm).trans hc
theorem keep_set3 {p : Addr} {v : Value} {n : Nat} (hc : W.cell? p = some v) (hl : p.block < n) (a b c : Value) : (((W.setCell ⟨n, 0, none⟩ a).setCell ⟨n, 1, none⟩ b).setCell ⟨n, 2, none⟩ c).cell? p = some v := by
  refine keep_set (keep_set (keep_set hc ?_ _) ?_ _) ?_ _
  all_goals
    intro e
    subst e
    simp at hl
theorem lt_set3 {n : Nat} (hn : n < W.heap.size) (p q r : Addr) (a b c : Value) : n < (((W.setCell p a).setCell q b).setCell r c).heap.size := by simpa using hn
theorem lt_call (h : Below W.heap.size W w1) {n : Nat} (hn : n < W.heap.size) : n < w1.heap.size := Nat.lt_of_lt_of_le hn h.size
theorem lt_alloc {n : Nat} (hn : n < W.heap.size) (o : Obj) : n < (W.alloc o).heap.size := Nat.lt_of_lt_of_le hn (by simp)
theorem lt_box3 {n : Nat} (hn : n < W.heap.size) (o : Obj) (a b c : Value) : n < ((((W.alloc o).setCell ⟨W.heap.size, 0, none⟩ a).setCell ⟨W.heap.size, 1, none⟩ b).setCell ⟨W.heap.size, 2, none⟩ c).heap.size := Nat.lt_of_lt_of_le hn (by simp)
theorem bcell (hb : Below W.heap.size W w1) : (∀ b o, b < W.heap.size → w1.cell? ⟨b, o, none⟩ = W.cell? ⟨b, o, none⟩) ∧ (∀ b o, b < W.heap.size → w1.frozen? ⟨b, o, none⟩ = W.frozen? ⟨b, o, none⟩) :=
  ⟨fun b o h => hb.cell (p := ⟨b, o, none⟩) h, fun b o h => hb.frozen (p := ⟨b, o, none⟩) h⟩
theorem bcell1 {o : Obj} (hb : Below (W.alloc o).heap.size (W.alloc o) w1) : (∀ b k, b < W.heap.size → w1.cell? ⟨b, k, none⟩ = W.cell? ⟨b, k, none⟩) ∧ (∀ b k, b < W.heap.size → w1.frozen? ⟨b, k, none⟩ = W.frozen? ⟨b, k, none⟩) := by
  have h : Below W.heap.size W w1 := bl_call hb (bl_alloc (bl_refl _) _)
  exact bcell h
theorem bcell2 {o o' : Obj} (hb : Below ((W.alloc o).alloc o').heap.size ((W.alloc o).alloc o') w1) : (∀ b k, b < W.heap.size → w1.cell? ⟨b, k, none⟩ = W.cell? ⟨b, k, none⟩) ∧ (∀ b k, b < W.heap.size → w1.frozen? ⟨b, k, none⟩ = W.frozen? ⟨b, k, none⟩) := by
  have h : Below W.heap.size W w1 := bl_call hb (bl_alloc (bl_alloc (bl_refl _) _) _)
  exact bcell h
end

theorem bool_ret {a b : Bool} (h : a = b) : Ending.returned (.bool a) = .returned (.bool b) := by rw [h]
theorem int_ret {k : IntKind} {a b : Int} (h : a = b) : Ending.returned (.int k a) = .returned (.int k b) := by rw [h]
theorem str_ret {a b : ByteArray} (h : a = b) : Ending.returned (.string a) = .returned (.string b) := by rw [h]
theorem val_ret {a b : Value} (h : a = b) : Ending.returned a = .returned b := by rw [h]
theorem tup2_ret {a b c d : Value} (h : a = c) (k : b = d) : Ending.returned (.tuple #[a, b]) = .returned (.tuple #[c, d]) := by rw [h, k]
theorem int_val {k : IntKind} {a b : Int} (h : a = b) : Value.int k a = Value.int k b := by rw [h]
theorem bool_val {a b : Bool} (h : a = b) : Value.bool a = Value.bool b := by rw [h]

theorem hide {p : Prop} (h : p) : Hid p := h
end Go.Proofs.Ytmncdpiojhgcdaa

/- What every row's step of this repo uses: the program's own facts, and how an argument that is a slice of integers is told to a walk. -/
namespace Go.Proofs.Ytmncdpiojhgcdaa
open Go.ChangeShapes Go.WideShapes Go.ChangeAt Go.RowKit

theorem own_knob : ownKnob Try.prog.godebug = none := by kernel_rfl
theorem laid_out : laidOutB Try.prog = true := by kernel_rfl

/-- What a walk is told of a slice of integers that came in: it is nil; or it leads to a row of 'cap' cells, the numbers 'zs'. -/
def IsRow (k : IntKind) (w : World) (a : Option Addr) (len cap : Nat) (zs : List Int) : Prop :=
  (a = none ∧ len = 0 ∧ cap = 0 ∧ zs = []) ∨
  ∃ x, a = some x ∧ len ≤ cap ∧ cap ≤ maxLen ∧ zs.length = cap ∧ (∀ i, i < zs.length → w.cell? (x.add i) = some (.int k (zs.getD i 0))) ∧ ∀ n ∈ zs, (Lit.int k n).wf = true

theorem isRow_of {H : Type} {enc : TypeId × Value → H} {P : Program} {w : World} {base : Nat} {held : Bool} {t e : TypeId} {k : IntKind} {a : Option Addr} {len cap : Nat} {d : DataW H} {p : List MemPlace}
    (ht : P.underlying t = some (.slice e)) (he : P.underlying e = some (.int k)) (hc : P.cellsOf e = 1) (h : DataW.Trod enc P w base (fun _ => true) held t (.slice a len cap) d p) : ∃ zs, IsRow k w a len cap zs := by
  obtain ⟨fuel, hf⟩ := h
  rcases open_ints ht he hc hf with ⟨hcs, _⟩ | ⟨x, l, c, zs, hcs, _, hl, hm, hz, _, hcell, hwz⟩
  · simp [Value.cells] at hcs
    obtain ⟨rfl, rfl, rfl⟩ := hcs
    exact ⟨[], .inl ⟨rfl, rfl, rfl, rfl⟩⟩
  · simp [Value.cells] at hcs
    obtain ⟨rfl, rfl, rfl⟩ := hcs
    exact ⟨zs, .inr ⟨_, rfl, hl, hm, by simpa using hz, hcell, hwz⟩⟩
end Go.Proofs.Ytmncdpiojhgcdaa

/- The closed facts on how this program was made, which every statement of the seat asks, proved once: the words of its head are spelt out first (String.toList of a long text is slow in the kernel). -/
namespace Go.Proofs.Ytmncdpiojhgcdaa
open Go.ChangeShapes Go.WideShapes Go.ChangeAt Go.RowKit
set_option linter.unusedVariables false

set_option maxRecDepth 100000 in
theorem words_head : ∃ l : List Char, Try.pinned.checked.prog.initOrder.toList = l ∧ (behindMainWord (wordsSigns l)).head? = some "cut".toList := by
  refine ⟨_, String.toList_ofList, ?_⟩
  kernel_rfl
theorem words_cut : ∃ rest, behindMainWord (wordsSigns Try.pinned.checked.prog.initOrder.toList) = "cut".toList :: rest := by
  obtain ⟨l, h, k⟩ := words_head
  rw [h]
  cases q : behindMainWord (wordsSigns l) with
  | nil => rw [q] at k; cases k
  | cons a b => rw [q] at k; injection k with k; rw [k]; exact ⟨b, rfl⟩
theorem strip_cut (rest : List (List Char)) : stripLifts liftWords ("cut".toList :: rest) = ([], "cut".toList :: rest) := by kernel_rfl
theorem may_gen (P : Program) (rest : List (List Char)) (h : behindMainWord (wordsSigns P.initOrder.toList) = "cut".toList :: rest) (a : P.laysLater = false) (b : P.bearsReflect = false) (c : P.doorFits [] = true) : P.mayEnter = true := by
  unfold Program.mayEnter
  rw [h]
  simp only [strip_cut, a, b, c]
  kernel_rfl
theorem lift_gen (P : Program) (rest : List (List Char)) (h : behindMainWord (wordsSigns P.initOrder.toList) = "cut".toList :: rest) : P.liftsFinal = false := by
  unfold Program.liftsFinal Program.headLifts
  rw [h]
  simp only [strip_cut]
  kernel_rfl
theorem make_gen (P : Program) (rest : List (List Char)) (h : behindMainWord (wordsSigns P.initOrder.toList) = "cut".toList :: rest) : P.make = some .cut := by
  unfold Program.make
  rw [h]
  kernel_rfl
theorem may_enter : Try.pinned.checked.prog.mayEnter = true := by
  obtain ⟨rest, h⟩ := words_cut
  exact may_gen _ rest h (by kernel_rfl) (by kernel_rfl) (by kernel_rfl)
theorem lifts_final : Try.pinned.checked.prog.liftsFinal = false := by
  obtain ⟨rest, h⟩ := words_cut
  exact lift_gen _ rest h
theorem make_cut : Try.pinned.checked.prog.make = some .cut := by
  obtain ⟨rest, h⟩ := words_cut
  exact make_gen _ rest h
end Go.Proofs.Ytmncdpiojhgcdaa

/- A range over a function whose values come in a known order and whose body always ends in the ordinary way: the body may assume which value it is handed. It speaks of no program. -/
namespace Go.Proofs.Ytmncdpiojhgcdaa
open Go.ChangeShapes Go.WideShapes Go.ChangeAt Go.RowKit Go.Shelf
set_option linter.unusedVariables false

/-- The iterator hands on N values, the k-th of which is 'enc k'. -/
def SeqN (F : Fence) (n : Nat) (P : Program) (gf : Nat) (lb : Array Value) (enc : Nat → Array Value) (Kp : World → World → Prop) (N : Nat) (w : World) : Prop :=
  ∀ (l : Nat) (J : Nat → World → Prop) (W : World), Below w.heap.size w W → AbidesFrom W.heap.size J →
    (∀ k W1, k < N → J k W1 → YieldAt F (n - 1) P l (enc k) W1 fun e W' => e = .returned (.bool true) ∧ J (k + 1) W' ∧ Kp W1 W') → J 0 W →
    CallsIn F n P gf (#[.func (.yield l) #[] #[]] ++ lb) W fun e W' => (∃ v, e = .returned v) ∧ J N W'
/-- What the body of a round leaves. -/
def BdN (B : Nat) (Kp : World → World → Prop) (I : World → Prop) (W : World) : Exit → Act → World → Prop
  | .normal, _, W' => KeepsFrom B W W' ∧ Kp W W' ∧ I W'
  | _, _, _ => False
theorem range_seq {F : Fence} {n : Nat} {P : Program} {g : Operand} {ps : Array Tmp} {assign body : Code} {Q : Exit → Act → World → Prop} {a : Act} {w : World}
    (hro : F.round = none) (h1 : 1 ≤ n) {gf : Nat} {lb : Array Value} (hg : a.eval g = .func (.func gf) #[] lb) (hFg : F.fn gf) (eg : ∀ args w, (callFunc gf args).run P w = .ok (.enter gf args) w)
    {enc : Nat → Array Value} {Kp : World → World → Prop} {N : Nat} {w0 : World} (hseq : SeqN F (n - 1) P gf lb enc Kp N w0)
    (hKt : ∀ {A B C : World}, Kp A B → Kp B C → Kp A C) (hKb : ∀ (W : World) (l : Nat) (o o' : Obj), w.heap.size ≤ l → W.heap[l]? = some o → o.isCells = false → o.isWalk = false → Kp W (W.putObj l o'))
    (hb0 : Below w0.heap.size w0 w) (hps : ∀ k, (enc k).size = ps.size) (I : Nat → World → Prop) (hI : OwnFrom w.heap.size I) (h0 : I 0 w) (fr : Nat → Act)
    (hassign : ∀ (l k : Nat) (W : World) (K : Act → World → Prop), k < N → K (fr k) W →
      assign.wpIn (F.inRound l) (n - 1 - 1) P (Exit.then K (fun _ _ _ => False)) { tmps := (ps.zip (enc k)).foldl (fun t (p, v) => t.setIfInBounds p v) a.tmps, defers := [] } W)
    (hbody : ∀ (l k : Nat) (W : World), k < N → I k W → body.wpIn (F.inRound l) (n - 1 - 1) P (BdN w.heap.size Kp (I (k + 1)) W) (fr k) W)
    (hdone : ∀ (D : Nat) (W : World), w.heap.size ≤ D → I N W → W.heap[D]? = some (.deferred (some [])) → Q .normal { a with defers := { target := .collected D, args := #[] } :: a.defers } W) :
    (Code.rangeFunc g ps assign body).wpIn F n P Q a w := by
  refine wpIn_rangeFunc fun fn hfn => ?_
  rw [hro]
  -- the loop's record, in its states
  obtain ⟨R, hR⟩ : ∃ R : LoopState → Loop, R = fun s => { state := s, pending := none, fn, tmps := a.tmps, params := ps, assign, body, defers := w.heap.size } := ⟨_, rfl⟩
  have Rp : ∀ s, (R s).pending = none := fun s => by rw [hR]
  have Rs : ∀ s, (R s).state = s := fun s => by rw [hR]
  have Rb : ∀ s t, { R s with state := t } = R t := fun s t => by rw [hR]
  obtain ⟨V, hV⟩ : ∃ V, V = (w.alloc (.deferred (some []))).alloc (.loop (R .ready)) := ⟨_, rfl⟩
  have hVL : V.heap[w.heap.size + 1]? = some (.loop (R .ready)) := by
    rw [hV]
    simpa using World.alloc_heap_new (w.alloc (.deferred (some []))) (.loop (R .ready))
  have hVD : V.heap[w.heap.size]? = some (.deferred (some [])) := by
    rw [hV]
    exact (Below.heap_alloc _ _ _ (by simp)).trans (World.alloc_heap_new w _)
  have hVz : V.heap.size = w.heap.size + 2 := by rw [hV]; simp
  have hVI : I 0 V := by rw [hV]; exact hI.alloc _ (hI.alloc _ h0)
  have hVB : Below w0.heap.size w0 V := by
    rw [hV]
    exact bl_alloc (bl_alloc hb0 _) _
  refine ⟨w.heap.size + 1, [{ target := .collected w.heap.size, args := #[] }], V, { target := .fn (.func gf) lb, args := #[.func (.yield (w.heap.size + 1)) #[] #[]] }, V, gf, #[.func (.yield (w.heap.size + 1)) #[] #[]] ++ lb, V, ?_, ?_, ?_, ?_, fun _ => h1, ?_⟩
  · rw [hV, hR]; exact run_enterLoop_outer _ _ _ _ _
  · simp only [resolve, hg]
    simp [go_sem]
  · intro f hf
    simp [Target.leads] at hf
    subst hf
    exact hFg
  · simp [invoke, go_sem, eg]
  -- what stands between two rounds
  have far : ∀ {A B : World} {row : Option Nat} {o : Obj} {m : Nat}, A.grownBy B row → (∀ r, row = some r → V.heap.size ≤ r ∧ ∃ o : Obj, A.heap[r]? = some o ∧ o.isWalk = true) → m < V.heap.size → A.heap[m]? = some o → B.heap[m]? = some o := fun hg hr hm ho =>
    (hg.block _ (Array.getElem?_eq_some_iff.1 ho).1 (fun e => by have := (hr _ e.symm).1; omega)).trans ho
  refine (hseq (w.heap.size + 1) (fun k W => I k W ∧ W.heap[w.heap.size + 1]? = some (.loop (R .ready)) ∧ W.heap[w.heap.size]? = some (.deferred (some []))) V hVB (fun k A B row h hg hr => ?_) (fun k W hk h => ?_) ⟨hVI, hVL, hVD⟩).mono ?_
  · exact ⟨hI k A B row h.1 hg (fun r e => by obtain ⟨q1, o, q2, q3⟩ := hr r e; exact ⟨by omega, o, q2, Obj.not_cells_of_walk q3⟩), far hg hr (by omega) h.2.1, far hg hr (by omega) h.2.2⟩
  · obtain ⟨hi, hl, hd⟩ := h
    have hlt : w.heap.size + 1 < W.heap.size := (Array.getElem?_eq_some_iff.1 hl).1
    have hy := run_yield (P := P) (args := enc k) hl (by rw [hR]; exact hps k)
    rw [hR] at hy
    obtain ⟨U, hU⟩ : ∃ U, U = W.putObj (w.heap.size + 1) (.loop (R .busy)) := ⟨_, rfl⟩
    have hUL : U.heap[w.heap.size + 1]? = some (.loop (R .busy)) := by rw [hU]; exact World.putObj_heap_same hlt
    have hUD : U.heap[w.heap.size]? = some (.deferred (some [])) := by rw [hU]; exact (World.putObj_heap_other (by omega)).trans hd
    have hUI : I k U := by rw [hU]; exact hI.putObj _ hi (by omega) hl rfl
    have hUK : Kp W U := by rw [hU]; exact hKb _ _ _ _ (by omega) hl rfl rfl
    have hbg := run_beginRound (P := P) hl (Rs .ready)
    rw [Rb, ← hU] at hbg
    refine ⟨fn, _, assign, body, hy, roundIn_of_wpIn hfn (hassign _ k W _ hk ⟨U, hbg, wpIn_mono (hbody _ k U hk hUI) ?_⟩)⟩
    rintro e b W3 hp
    cases e with
    | normal =>
      obtain ⟨q1, q2, q3⟩ := hp
      have l3 := q1.same _ _ (by omega) hUL rfl
      have d3 := q1.same _ _ (Nat.le_refl _) hUD rfl
      have he := run_endRound (P := P) none l3
      rw [show ({ R .busy with state := if (none : Option Code).isNone then LoopState.ready else LoopState.done, pending := none } : Loop) = R .ready by rw [hR]; rfl] at he
      exact ⟨_, _, he, rfl, ⟨hI.putObj _ q3 (by omega) l3 rfl, World.putObj_heap_same (Array.getElem?_eq_some_iff.1 l3).1, (World.putObj_heap_other (by omega)).trans d3⟩, hKt (hKt hUK q2) (hKb _ _ _ _ (by omega) l3 rfl rfl)⟩
    | ret => exact hp.elim
    | exit id => exact hp.elim
    | goto t => exact hp.elim
    | panic ch => exact hp.elim
    | outgrown => exact hp.elim
  · rintro e W2 ⟨⟨v, rfl⟩, hi, hl, hd⟩
    have he := run_endLoop (P := P) hl (by rw [Rs]; simp)
    rw [Rp] at he
    exact ⟨none, _, he, hdone _ _ (Nat.le_refl _) (hI.putObj _ hi (by omega) hl rfl) ((World.putObj_heap_other (by omega)).trans hd)⟩
end Go.Proofs.Ytmncdpiojhgcdaa

/- Slices of integers as lists: what they read, what the call owns. They speak of no program. -/
namespace Go.Proofs.Ytmncdpiojhgcdaa
open Go.ChangeShapes Go.WideShapes Go.ChangeAt Go.RowKit
set_option linter.unusedVariables false

/-- The k-th number. -/
def ng (l : List Int) (k : Nat) : Int := l.getD k 0
theorem ng_lt {l : List Int} {k : Nat} (h : k < l.length) : ng l k = l[k] := by simp [ng, List.getD, List.getElem?_eq_getElem h]
theorem ng_get {l : List Int} {k : Nat} (h : k < l.length) : l[k]? = some (ng l k) := by rw [ng_lt h, List.getElem?_eq_getElem h]
theorem ng_mem {l : List Int} {k : Nat} (h : k < l.length) : ng l k ∈ l := by rw [ng_lt h]; exact List.getElem_mem h
/-- Two lists agree in their first k numbers. -/
def Agr (l m : List Int) (k : Nat) : Prop := ∀ j, j < k → ng l j = ng m j
theorem Agr.zero (l m : List Int) : Agr l m 0 := fun j hj => by omega
theorem Agr.step {l m : List Int} {k : Nat} (h : Agr l m k) (hk : ng l k = ng m k) : Agr l m (k + 1) := fun j hj => by
  rcases (by omega : j < k ∨ j = k) with e | e
  · exact h j e
  · rw [e]; exact hk
theorem Agr.all {l m : List Int} (hl : l.length = m.length) (h : Agr l m l.length) : l = m :=
  List.ext_getElem hl fun j h1 h2 => by have := h j h1; rwa [ng_lt h1, ng_lt h2] at this

theorem on_set' {a w : World} {g : Nat} (h : a.grownBy w (some g)) {p : Addr} (hp : p.block = g ∨ a.heap.size ≤ p.block) (u : Value) : a.grownBy (w.setCell p u) (some g) :=
  ⟨h.os, h.tape, h.output, by simpa [World.setCell] using h.size, fun i hi hne => (Below.heap_setCell w p u i (by
    rintro rfl
    rcases hp with hp | hp
    · exact hne (by rw [hp])
    · omega)).trans (h.block i hi hne)⟩
theorem below_new {a w : World} (h : a.grownBy w none) : Below a.heap.size a w := ⟨h.os, h.tape, h.output, h.size, fun i hi => h.block i hi (fun e => by cases e)⟩
/-- A slice that reads as a list of numbers. -/
def IL (w : World) (A : Option Addr) (n : Nat) (l : List Int) : Prop :=
  n = l.length ∧ (0 < n → ∃ b o, A = some ⟨b, o, none⟩ ∧ b < w.heap.size ∧ ∀ i, i < n → w.cell? ⟨b, o + i, none⟩ = some (.int .i64 (ng l i)))
/-- A slice that the call made, of blocks from B on, which holds a list of numbers. -/
def OL (w : World) (e : TypeId) (B : Nat) (A : Option Addr) (c : Nat) (l : List Int) : Prop := w.ownsRow B e 1 (.slice A l.length c) l.length (l.map (Value.int .i64))

section
variable {w w' : World} {A : Option Addr} {n c B B' : Nat} {e : TypeId} {l : List Int}
theorem IL.at_ (h : IL w A n l) {i : Nat} (hi : i < n) : ∃ b o, A = some ⟨b, o, none⟩ ∧ b < w.heap.size ∧ w.cell? ⟨b, o + i, none⟩ = some (.int .i64 (ng l i)) := by
  obtain ⟨b, o, e, hb, hc⟩ := h.2 (by omega)
  exact ⟨b, o, e, hb, hc i hi⟩
theorem IL.nil (w : World) (A : Option Addr) : IL w A 0 [] := ⟨rfl, fun h => by omega⟩
theorem IL.below (h : IL w A n l) (hb : Below w.heap.size w w') : IL w' A n l :=
  ⟨h.1, fun h0 => by
    obtain ⟨b, o, e, hl, hc⟩ := h.2 h0
    exact ⟨b, o, e, Nat.lt_of_lt_of_le hl hb.size, fun i hi => keep_cell hb (hc i hi)⟩⟩
theorem IL.alloc (h : IL w A n l) (o : Obj) : IL (w.alloc o) A n l := h.below (bl_alloc (bl_refl _) _)
theorem IL.drewN (h : IL w A n l) (k : Nat) : IL (w.drewN k) A n l := h
theorem IL.drew (h : IL w A n l) : IL w.drew A n l := h
theorem OL.drewN (h : OL w e B A c l) (k : Nat) : OL (w.drewN k) e B A c l := h
theorem OL.drew (h : OL w e B A c l) : OL w.drew e B A c l := h
theorem OL.more (h : OL w e B A c l) (hB : B' ≤ B) : OL w e B' A c l := by
  refine ⟨h.1, ?_⟩
  rcases h.2 with h0 | ⟨g, cap, cur, h1, h2, h3⟩
  · exact .inl h0
  · exact .inr ⟨g, cap, cur, h1, by omega, h3⟩
theorem OL.own_lt (h : OL w e B A c l) : ∀ k, (Value.slice A l.length c).ownBlock = some k → B ≤ k ∧ k < w.heap.size := fun k hk => World.ownsRow.lt h k hk
theorem OL.below (h : OL w e B A c l) (hb : Below w.heap.size w w') : OL w' e B A c l := by
  refine ⟨h.1, ?_⟩
  rcases h.2 with h0 | ⟨g, cap, cur, h1, h2, h3, h4⟩
  · exact .inl h0
  · refine .inr ⟨g, cap, cur, h1, h2, ?_, h4⟩
    rw [hb.block g (Array.getElem?_eq_some_iff.1 h3).1]
    exact h3
theorem OL.alloc (h : OL w e B A c l) (o : Obj) : OL (w.alloc o) e B A c l := h.below (bl_alloc (bl_refl _) _)
theorem OL.kept {row : Option Nat} (h : OL w e B A c l) (hg : w.grownBy w' row) (hne : ∀ k, (Value.slice A l.length c).ownBlock = some k → row ≠ some k) : OL w' e B A c l := by
  refine World.ownsRow.kept h hg ?_
  cases hv : (Value.slice A l.length c).ownBlock with
  | none => exact .inl rfl
  | some k => exact .inr (fun e => hne k hv e.symm)
theorem OL.nil (w : World) (e : TypeId) (B : Nat) : OL w e B none 0 [] := World.ownsRow_nil _ _ _ _
theorem OL.form (h : OL w e B A c l) (h0 : 0 < l.length) : ∃ g, A = some ⟨g, 0, none⟩ ∧ B ≤ g ∧ g < w.heap.size ∧ l.length ≤ c ∧ c ≤ maxLen := by
  rcases h.2 with ⟨_, h1⟩ | ⟨g, cap, cur, h1, h2, h3, h4, h5, _⟩
  · omega
  · injection h1 with h1 _ h6
    subst h6
    exact ⟨g, h1, h2, (Array.getElem?_eq_some_iff.1 h3).1, h4, h5⟩
theorem OL.len (h : OL w e B A c l) : l.length ≤ maxLen := by
  rcases Nat.eq_zero_or_pos l.length with h0 | h0
  · omega
  · obtain ⟨_, _, _, _, h1, h2⟩ := h.form h0
    omega
theorem OL.reads (h : OL w e B A c l) : IL w A l.length l := by
  refine ⟨rfl, fun h0 => ?_⟩
  obtain ⟨g, rfl, _, hg, _⟩ := h.form h0
  refine ⟨g, 0, rfl, hg, fun i hi => ?_⟩
  have := World.ownsRow.cellAt h i (by omega)
  rw [Nat.zero_add, this]
  simp [ng_get hi]
theorem OL.frozen (h : OL w e B A c l) (h0 : 0 < l.length) : ∃ g, A = some ⟨g, 0, none⟩ ∧ B ≤ g ∧ g < w.heap.size ∧ ∀ i, w.frozen? ⟨g, i, none⟩ = false := by
  obtain ⟨g, rfl, h1, hg, _⟩ := h.form h0
  exact ⟨g, rfl, h1, hg, fun i => World.ownsRow.frozenAt h i⟩
/-- A store at place i. -/
theorem OL.set_ {g : Nat} (h : OL w e B (some ⟨g, 0, none⟩) c l) (i : Nat) (z : Int) : OL (w.setCell ⟨g, i, none⟩ (.int .i64 z)) e B (some ⟨g, 0, none⟩) c (l.set i z) ∧ w.grownBy (w.setCell ⟨g, i, none⟩ (.int .i64 z)) (some g) := by
  have := World.ownsRow.stored h i (.int .i64 z)
  refine ⟨?_, this.2⟩
  have h1 := this.1
  unfold OL
  rw [List.length_set, List.map_set]
  exact h1
end

theorem OL.of_own {w : World} {B n : Nat} {e : TypeId} {v : Value} {xs : List Value} {l : List Int} (h : w.ownsRow B e 1 v n xs) (hx : xs = l.map (Value.int .i64)) : ∃ A c, v = .slice A n c ∧ n = l.length ∧ OL w e B A c l := by
  subst hx
  have hn : n = l.length := by have := h.1; simpa using this.symm
  subst hn
  rcases h.2 with ⟨rfl, h1⟩ | ⟨g, cap, cur, rfl, h2⟩
  · have := List.eq_nil_of_length_eq_zero h1
    subst this
    exact ⟨none, 0, rfl, rfl, h⟩
  · exact ⟨_, _, rfl, rfl, h⟩
theorem OL.lit {w : World} {e : TypeId} {B : Nat} (hB : B ≤ w.heap.size) (l : List Int) (hl : l.length ≤ maxLen) : OL (w.alloc (.cells (l.map (Value.int .i64)).toArray e)) e B (some ⟨w.heap.size, 0, none⟩) l.length l := by
  have := World.ownsRow_lit (base := B) (e := e) (size := 1) w (l.map (Value.int .i64)).toArray l.length hB hl (by simp)
  unfold OL
  simpa using this

/-- What was made earlier lies in another block. -/
theorem OL.apart {w u : World} {e : TypeId} {B c d : Nat} {A A' : Option Addr} {l m : List Int} (h : OL w e B A c l) (h' : OL u e w.heap.size A' d m) : ∀ k, (Value.slice A l.length c).ownBlock = some k → (Value.slice A' m.length d).ownBlock ≠ some k := fun k hk hk' => by
  have h1 := (h.own_lt k hk).2
  have h2 := (h'.own_lt k hk').1
  omega
/-- What a call made, and what was then written into it alone. -/
theorem marked {u v x : World} {e : TypeId} {c j : Nat} {A : Option Addr} {l : List Int} (h : OL v e u.heap.size A c l) (hb : Below u.heap.size u v) (hg : (v.drewN j).grownBy x (Value.slice A l.length c).ownBlock) : Below u.heap.size u x :=
  (bl_drewN hb j).grown hg hb.size (fun k hk => (h.own_lt k hk).1)
/-- append of one number to a slice that the call made. -/
theorem wpList_append_int {P : Program} {ops : Array Oper} {rest : List Oper} {o : Oper} {a : Act} {Q : Exit → Act → World → Prop} {w : World} (hgd : o.guard = none) (s x : Operand) (t : TypeId)
    (ho : o.op = .call { callee := .builtin .append, args := #[s, x], argTypes := #[t, t] })
    (e : TypeId) (i : TypeInfo) (ht : P.underlying t = some (.slice e)) (hi : P.info? e = some i) (hz : i.zero = some (.int .i64 0)) (hsize : i.size = 1) (hby : i.bytes = 8)
    (B : Nat) (A : Option Addr) (c n : Nat) (l : List Int) (hs : a.eval s = .slice A n c) (hn : n = l.length) (hown : OL w e B A c l)
    (b : Nat) (z : Int) (hx : a.eval x = .slice (some ⟨b, 0, none⟩) 1 1) (hc : w.cell? ⟨b, 0, none⟩ = some (.int .i64 z)) (hlen : n ≤ 1000000000000) (hB : B ≤ w.heap.size)
    (h : ∀ A' c' w', OL w' e B A' c' (l ++ [z]) → Below B w w' → w.grownBy w' (Value.slice A n c).ownBlock → wpList P ops Q rest (a.put o.dst (.slice A' (n + 1) c')) w') : wpList P ops Q (o :: rest) a w := by
  subst hn
  refine wpList_append_own w hgd s x t ho B e i (.int .i64 0) 1 8 ht hi hz hsize hby rfl (by decide) _ l.length (l.map (Value.int .i64)) hs hown ⟨b, 0, none⟩ 1 1 [.int .i64 z] hx rfl ?_ ?_ (by unfold maxLen; omega) (by omega) hB ?_
  · intro j u hj
    match j, hj with
    | 0, hj => simp at hj; subst hj; simpa [Addr.add] using hc
  · intro u hu; simp at hu; subst hu; rfl
  · intro v' w' hown' hgr _
    obtain ⟨A', c', rfl, hl, hol⟩ := OL.of_own (l := l ++ [z]) hown' (by simp)
    exact h A' c' w' hol ((Below.refl _ _).grown hgr hB (fun k hk => (hown.own_lt k hk).1)) hgr

/-- The first k numbers are those of l, the rest those of m. -/
def mix (l m : List Int) (k : Nat) : List Int := l.take k ++ m.drop k
theorem mix_zero (l m : List Int) : mix l m 0 = m := by simp [mix]
theorem mix_all {l m : List Int} (h : m.length = l.length) : mix l m l.length = l := by rw [mix, List.take_length, List.drop_eq_nil_of_le (by omega), List.append_nil]
theorem mix_len {l m : List Int} (h : m.length = l.length) (k : Nat) : (mix l m k).length = l.length := by simp [mix]; omega
theorem mix_get {l m : List Int} {k : Nat} (h : m.length = l.length) (hk : k < l.length) : ng (mix l m k) k = ng m k := by
  have e : k - min k l.length = 0 := by omega
  simp [ng, List.getD, mix, List.getElem?_append, e, Nat.not_lt.2 (Nat.min_le_left k l.length)]
theorem mix_step {l m : List Int} {k : Nat} (h : m.length = l.length) (hk : k < l.length) : (mix l m k).set k (ng l k) = mix l m (k + 1) := by
  apply List.ext_getElem?
  intro j
  simp only [mix, List.getElem?_set, List.getElem?_append, List.length_append, List.length_take, List.length_drop, List.getElem?_take, List.getElem?_drop]
  by_cases hj : j = k
  · subst hj
    have e2 : j < min (j + 1) l.length := by omega
    have e3 : j < min j l.length + (m.length - j) := by omega
    simp [e2, e3, ng_get hk, show j < j + 1 from by omega]
  · by_cases hl : j < k
    · have e1 : j < min k l.length := by omega
      have e2 : j < min (k + 1) l.length := by omega
      simp [Ne.symm hj, e1, e2, hl, show j < k + 1 from by omega]
    · simp [Ne.symm hj, hl, show ¬ j < k + 1 from by omega, show min k l.length = k from by omega, show min (k + 1) l.length = k + 1 from by omega, show k + (j - k) = j from by omega, show k + 1 + (j - (k + 1)) = j from by omega]

theorem mix_put {l m : List Int} {k : Nat} {z : Int} (h : m.length = l.length) (hk : k < l.length) (hz : ng l k = z) : (mix l m k).set k z = mix l m (k + 1) := by rw [← hz]; exact mix_step h hk

theorem mix_done {l m : List Int} {n : Nat} (h : m.length = l.length) (hn : l.length = n) : mix l m n = l := by rw [← hn]; exact mix_all h

/-- n numbers from z on. -/
def upto (z : Int) (n : Nat) : List Int := (List.range n).map fun i : Nat => z + (i : Int)
theorem upto_len (z : Int) (n : Nat) : (upto z n).length = n := by simp [upto]
theorem upto_get {z : Int} {n k : Nat} (h : k < n) : ng (upto z n) k = z + (k : Int) := by simp [ng, upto, List.getD, h]
theorem results_tmp4 {fn : Func} {t u v x : Tmp} (h : fn.results = #[.tmp t, .tmp u, .tmp v, .tmp x]) (tmps : Array Value) (P : Program) (w : World) :
    (results fn tmps).run P w = .ok (.tuple #[tmps.getD t undef, tmps.getD u undef, tmps.getD v undef, tmps.getD x undef]) w := by simp [results, h]
theorem ng_snoc {l : List Int} {z : Int} {P : Int → Prop} (hz : P z) (h : ∀ j, j < l.length → P (ng l j)) : ∀ j, j < (l ++ [z]).length → P (ng (l ++ [z]) j) := fun j hj => by
  rcases (by simp at hj; omega : j < l.length ∨ j = l.length) with e | e
  · have := h j e
    rwa [ng_lt (by simp; omega), List.getElem_append_left e, ← ng_lt e]
  · subst e
    rw [ng_lt (by simp)]
    simpa using hz
theorem ng_set {l : List Int} {z : Int} {i j : Nat} (hj : j < l.length) : ng (l.set i z) j = if i = j then z else ng l j := by
  rw [ng_lt (by simpa using hj), List.getElem_set, ng_lt hj]
theorem take_next {l : List Int} {k : Nat} {z : Int} (h : k < l.length) (hz : ng l k = z) : l.take k ++ [z] = l.take (k + 1) := by
  rw [List.take_add_one, ng_get h, hz]; rfl
theorem take_len {l : List Int} {k : Nat} (h : k ≤ l.length) : (l.take k).length = k := by simp; omega
end Go.Proofs.Ytmncdpiojhgcdaa

/- What the laws' helpers on slices of integers answer. -/
namespace Go.Proofs.Ytmncdpiojhgcdaa
open Go.ChangeShapes Go.WideShapes Go.ChangeAt Go.RowKit
set_option linter.unusedVariables false
set_option linter.unusedSimpArgs false

theorem IL.of_row {w : World} {a : Option Addr} {n c : Nat} {zs : List Int} (h : IsRow .i64 w a n c zs) : IL w a n (zs.take n) := by
  rcases h with ⟨rfl, rfl, rfl, rfl⟩ | ⟨x, rfl, h1, h2, h3, h4, h5⟩
  · exact IL.nil _ _
  · refine ⟨by simp; omega, fun h0 => ?_⟩
    obtain ⟨b, o, spot⟩ := x
    have e0 := h4 0 (by omega)
    have hspot : spot = none := by simpa [Addr.add] using World.cell?_spot e0
    subst hspot
    refine ⟨b, o, rfl, World.block_lt_of_cell? w _ (by simpa [Addr.add] using e0), fun i hi => ?_⟩
    have e1 := h4 i (by omega)
    have e2 : ng (zs.take n) i = zs.getD i 0 := by simp [ng, List.getD, List.getElem?_take, hi]
    rw [e2, ← e1]
    congr 1
    by_cases h0 : i = 0 <;> simp [Addr.add, h0]

theorem eqIntS_l (w : World) (A B : Option Addr) (n m c d : Nat) (l k : List Int) (ha : IL w A n l) (hb : IL w B m k) (hn : n ≤ 4611686018427387904) (hm : m ≤ 4611686018427387904) :
    Calls Try.prog 34 #[.slice A n c, .slice B m d] w fun e w' => e = .returned (.bool (decide (l = k))) ∧ ∃ j, w.drewN j = w' := by
  by_cases hnm : n = m
  · subst hnm
    have hl : l.length = k.length := by rw [← ha.1, ← hb.1]
    have HL := hide hl
    clear hl
    go_enter Try.func34, Try.ntmps34
    go_wp2
    go_loopw [5] (fun i u => ∃ p j : Nat, p ≤ n ∧ i = .int .i64 p ∧ Agr l k p ∧ u = w.drewN j) (fun i _ => n - (intOf i).toNat)
    case atStart => exact ⟨0, 0, by omega, rfl, Agr.zero _ _, rfl⟩
    case round =>
      obtain ⟨p, j, hp, rfl, hag, rfl⟩ := hrel
      have Hag := hide hag
      clear hag
      by_cases hlt : p < n
      · obtain ⟨b, o, rfl, hbl, hc⟩ := ha.at_ hlt
        obtain ⟨b', o', rfl, hbl', hc'⟩ := hb.at_ hlt
        by_cases he : ng l p = ng k p
        · have q : (ng l p != ng k p) = false := by simp [he]
          have M := hide (Hag.out.step he)
          clear he
          go_wp2
          go_quiet (fail)
          go_wp2
          go_roundw
          case rel => exact ⟨p + 1, _, by omega, by go_num, M.out, rfl⟩
          case measure => simp [intOf]; omega
        · have q : (ng l p != ng k p) = true := by simp [he]
          have M : Hid (decide (l = k) = false) := hide (by simp; intro h; subst h; exact he rfl)
          clear he
          go_wp2
          go_quiet (fail)
          go_wp2
          go_ret
          exact ⟨bool_ret M.out.symm, j + nq, by rw [World.drewN_drewN]⟩
      · have hpe : n = l.length := ha.1
        have M : Hid (decide (l = k) = true) := hide (by
          have := Hag.out
          rw [show p = l.length from by omega] at this
          simp; exact Agr.all HL.out this)
        go_wp2
        go_ret
        exact ⟨bool_ret M.out.symm, _, rfl⟩
  · have M : Hid (decide (l = k) = false) := hide (by simp; intro h; subst h; exact hnm (ha.1.trans hb.1.symm))
    go_enter Try.func34, Try.ntmps34
    go_wp2
    go_ret
    exact ⟨bool_ret M.out.symm, 0, rfl⟩
theorem eqInts_l (w : World) (A B : Option Addr) (n m c d : Nat) (l k : List Int) (ha : IL w A n l) (hb : IL w B m k) (hn : n ≤ 4611686018427387904) (hm : m ≤ 4611686018427387904) :
    Calls Try.prog 43 #[.slice A n c, .slice B m d] w fun e w' => e = .returned (.bool (decide (l = k))) ∧ ∃ j, w.drewN j = w' := by
  by_cases hnm : n = m
  · subst hnm
    have hl : l.length = k.length := by rw [← ha.1, ← hb.1]
    have HL := hide hl
    clear hl
    go_enter Try.func43, Try.ntmps43
    go_wp2
    go_loopw [5] (fun i u => ∃ p j : Nat, p ≤ n ∧ i = .int .i64 p ∧ Agr l k p ∧ u = w.drewN j) (fun i _ => n - (intOf i).toNat)
    case atStart => exact ⟨0, 0, by omega, rfl, Agr.zero _ _, rfl⟩
    case round =>
      obtain ⟨p, j, hp, rfl, hag, rfl⟩ := hrel
      have Hag := hide hag
      clear hag
      by_cases hlt : p < n
      · obtain ⟨b, o, rfl, hbl, hc⟩ := ha.at_ hlt
        obtain ⟨b', o', rfl, hbl', hc'⟩ := hb.at_ hlt
        by_cases he : ng l p = ng k p
        · have q : (ng l p != ng k p) = false := by simp [he]
          have M := hide (Hag.out.step he)
          clear he
          go_wp2
          go_quiet (fail)
          go_wp2
          go_roundw
          case rel => exact ⟨p + 1, _, by omega, by go_num, M.out, rfl⟩
          case measure => simp [intOf]; omega
        · have q : (ng l p != ng k p) = true := by simp [he]
          have M : Hid (decide (l = k) = false) := hide (by simp; intro h; subst h; exact he rfl)
          clear he
          go_wp2
          go_quiet (fail)
          go_wp2
          go_ret
          exact ⟨bool_ret M.out.symm, j + nq, by rw [World.drewN_drewN]⟩
      · have hpe : n = l.length := ha.1
        have M : Hid (decide (l = k) = true) := hide (by
          have := Hag.out
          rw [show p = l.length from by omega] at this
          simp; exact Agr.all HL.out this)
        go_wp2
        go_ret
        exact ⟨bool_ret M.out.symm, _, rfl⟩
  · have M : Hid (decide (l = k) = false) := hide (by simp; intro h; subst h; exact hnm (ha.1.trans hb.1.symm))
    go_enter Try.func43, Try.ntmps43
    go_wp2
    go_ret
    exact ⟨bool_ret M.out.symm, 0, rfl⟩

/-- What markIntS leaves: the numbers from z on, in the same place. -/
theorem markIntS_l (w : World) (e : TypeId) (B : Nat) (A : Option Addr) (c : Nat) (l : List Int) (z : Int) (ha : OL w e B A c l) (hn : l.length ≤ 2000000) (z0 : 0 ≤ z) (z1 : z ≤ 1000000000) :
    Calls Try.prog 39 #[.slice A l.length c, .int .i64 z] w fun e' w' => e' = .returned (.int .i64 (z + l.length)) ∧ OL w' e B A c (upto z l.length) ∧ w.grownBy w' (Value.slice A l.length c).ownBlock := by
  rcases Nat.eq_zero_or_pos l.length with h0 | h0
  · have E := hide (List.eq_nil_of_length_eq_zero h0)
    have H : Hid (OL w e B A c (upto z l.length)) := hide (by rw [E.out] at ha ⊢; exact ha)
    rw [h0] at H ⊢
    go_enter Try.func39, Try.ntmps39
    go_wp2
    go_loop [1, 5] (fun k i => k = .int .i64 z ∧ i = .int .i64 0) (fun _ _ => 0)
    case atStart => exact ⟨rfl, rfl⟩
    case round =>
      obtain ⟨rfl, rfl⟩ := hrel
      go_wp2
      go_ret
      exact ⟨int_ret (by simp), H.out, World.grownBy.refl _ _⟩
  · obtain ⟨g, rfl, hB, hg, hfz⟩ := ha.frozen h0
    have hmx := ha.len
    have hU : (upto z l.length).length = l.length := upto_len z l.length
    have HU := hide hU
    have H0 : Hid (OL w e B (some ⟨g, 0, none⟩) c (mix (upto z l.length) l 0)) := hide (by rw [mix_zero]; exact ha)
    clear ha hfz hU
    go_enter Try.func39, Try.ntmps39
    go_wp2
    go_loopw [1, 5] (fun k i u => ∃ p : Nat, p ≤ l.length ∧ k = .int .i64 (z + p) ∧ i = .int .i64 p ∧ OL u e B (some ⟨g, 0, none⟩) c (mix (upto z l.length) l p) ∧ w.grownBy u (some g)) (fun _ i _ => l.length - (intOf i).toNat)
    case atStart => exact ⟨0, by omega, by go_num, rfl, H0.out, World.grownBy.refl _ _⟩
    case round =>
      obtain ⟨p, hp, rfl, rfl, hol, hgr⟩ := hrel
      have hml : (mix (upto z l.length) l p).length = l.length := by rw [mix_len (by rw [HU.out]), HU.out]
      by_cases hlt : p < l.length
      · have M := hide (hol.set_ p (z + p))
        have hc := hol.reads.at_ (i := p) (by omega)
        obtain ⟨b, o, he, _, hc⟩ := hc
        obtain ⟨g', he', _, _, hfz⟩ := hol.frozen (by omega)
        injection he with he; injection he' with he'
        cases he; cases he'
        have fz := hfz p
        rw [Nat.zero_add] at hc
        have HML := hide hml
        clear hml hfz hol
        go_wp2
        go_roundw
        case rel =>
          refine ⟨p + 1, by omega, by go_num, by go_num, ?_, on_set' hgr (.inl rfl) _⟩
          have := M.out.1
          have e1 : (mix (upto z l.length) l p).set p (z + p) = mix (upto z l.length) l (p + 1) := by rw [← upto_get hlt, mix_step (by rw [HU.out]) (by rw [HU.out]; exact hlt)]
          rwa [e1] at this
        case measure => simp [intOf]; omega
      · have hpe : p = l.length := by omega
        have M : Hid (OL wr e B (some ⟨g, 0, none⟩) c (upto z l.length)) := hide (by
          rw [hpe] at hol
          rwa [show mix (upto z l.length) l l.length = upto z l.length from by have := mix_all (l := upto z l.length) (m := l) (by rw [HU.out]); rwa [HU.out] at this] at hol)
        clear hml hol
        go_wp2
        go_ret
        exact ⟨int_ret (by omega), M.out, hgr⟩

theorem heldIntS_l (w : World) (A : Option Addr) (c n : Nat) (z : Int) (ha : IL w A n (upto z n)) (hn : n ≤ 2000000) (z0 : 0 ≤ z) (z1 : z ≤ 1000000) :
    Calls Try.prog 47 #[.slice A n c, .int .i64 z] w fun e w' => e = .returned (.int .i64 (z + n)) ∧ w = w' := by
  go_enter Try.func47, Try.ntmps47
  go_wp2
  go_loop [1, 5] (fun k i => ∃ p : Nat, p ≤ n ∧ k = .int .i64 (z + p) ∧ i = .int .i64 p) (fun _ i => n - (intOf i).toNat)
  case atStart => exact ⟨0, by omega, by go_num, rfl⟩
  case round =>
    obtain ⟨p, hp, rfl, rfl⟩ := hrel
    by_cases hlt : p < n
    · obtain ⟨b, o, rfl, _, hc⟩ := ha.at_ hlt
      rw [upto_get hlt] at hc
      go_wp2
      go_round
      case rel => exact ⟨p + 1, by omega, by go_num, by go_num⟩
      case measure => simp [intOf]; omega
    · go_wp2
      go_ret
      exact ⟨int_ret (by omega), rfl⟩

theorem int_info : (Try.prog.info? 3).map (fun i => (i.zero, i.size, i.bytes)) = some (some (.int .i64 0), 1, 8) := by kernel_rfl
theorem toIntS_l (w : World) (A : Option Addr) (n c : Nat) (l : List Int) (ha : IL w A n l) (hn : n ≤ 1048576) :
    Calls Try.prog 32 #[.slice A n c] w fun e w' => ∃ A' c', e = .returned (.slice A' l.length c') ∧ OL w' 3 w.heap.size A' c' l ∧ Below w.heap.size w w' := by
  obtain ⟨i0, hi0, hz0, hz1, hz2⟩ := info_parts int_info
  obtain rfl : n = l.length := ha.1
  have hR : (List.replicate l.length (0 : Int)).length = l.length := List.length_replicate
  have HR := hide hR
  clear hR
  go_enter Try.func32, Try.ntmps32
  go_wp2_with (refine wpList_make_full _ rfl _ _ _ rfl w.heap.size 3 i0 _ 1 Try.underlying30 hi0 hz0 hz1 .i64 .i64 _ _ l.length rfl rfl rfl rfl (by rw [hz2]; omega) (by unfold maxLen; omega) (Nat.le_refl _) ?_; intro w1 hown hgr)
  have H0 : Hid (OL w1 3 w.heap.size (some ⟨w.heap.size, 0, none⟩) l.length (mix l (List.replicate l.length 0) 0)) := hide (by
    rw [mix_zero]; unfold OL
    have e1 : (madeCells (Value.int .i64 0).cells l.length).toList = List.replicate l.length (.int .i64 0) := toList_madeCells_one _ _
    simp only [Nat.mul_one, e1] at hown
    simpa using hown)
  have hb1 := below_new hgr
  have hz0 : w.heap.size ≤ w1.heap.size := hb1.size
  have HI := hide ha
  clear hown hgr ha
  go_wp2
  go_loopw [4] (fun i u => ∃ p : Nat, p ≤ l.length ∧ i = .int .i64 p ∧ OL u 3 w.heap.size (some ⟨w.heap.size, 0, none⟩) l.length (mix l (List.replicate l.length 0) p) ∧ Below w.heap.size w u) (fun i _ => l.length - (intOf i).toNat)
  case atStart => exact ⟨0, by omega, rfl, H0.out, hb1⟩
  case round =>
    obtain ⟨p, hp, rfl, hol, hbl⟩ := hrel
    have hml : (mix l (List.replicate l.length 0) p).length = l.length := mix_len HR.out p
    by_cases hlt : p < l.length
    · have M := hide (hol.set_ p (ng l p)).1
      have hc := hol.reads.at_ (i := p) (by omega)
      obtain ⟨b, o, he, hg, hc⟩ := hc
      obtain ⟨g', he', _, _, hfz⟩ := hol.frozen (by omega)
      injection he with he; injection he' with he'
      cases he; cases he'
      have fz := hfz p
      obtain ⟨b, o, rfl, hb0, hci⟩ := HI.out.at_ hlt
      have hci := keep_cell hbl hci
      rw [Nat.zero_add] at hc
      clear hml hfz hol
      go_wp2
      go_roundw
      case rel =>
        refine ⟨p + 1, by omega, by go_num, ?_, bl_set hbl (Nat.le_refl _) _⟩
        have := M.out
        rwa [mix_step HR.out hlt] at this
      case measure => simp [intOf]; omega
    · have hpe : p = l.length := by omega
      have M : Hid (OL wr 3 w.heap.size (some ⟨w.heap.size, 0, none⟩) l.length l) := hide (by
        rwa [hpe, mix_all HR.out] at hol)
      clear hml hol
      go_wp2
      go_ret
      exact ⟨_, _, rfl, M.out, hbl⟩


end Go.Proofs.Ytmncdpiojhgcdaa

/- The iterator over pieces, and a range over it: 'for from, to := range piecesOf(start, ends)'. -/
namespace Go.Proofs.Ytmncdpiojhgcdaa
open Go.ChangeShapes Go.WideShapes Go.ChangeAt Go.RowKit Go.Shelf
set_option linter.unusedVariables false
attribute [local go_sem] Oper.semAt_some

/-- Where piece k begins. -/
def frm (s : Int) (E : List Int) (k : Nat) : Int := if k = 0 then s else ng E (k - 1)
theorem frm_zero (s : Int) (E : List Int) : frm s E 0 = s := rfl
theorem frm_succ (s : Int) (E : List Int) (k : Nat) : frm s E (k + 1) = ng E k := rfl
/-- The first k pieces, by number. -/
def pcs (n k : Nat) : List (Fin n) := (List.finRange n).take k
theorem pcs_len {n k : Nat} (h : k ≤ n) : (pcs n k).length = k := by simp [pcs]; omega
theorem pcs_zero (n : Nat) : pcs n 0 = [] := by simp [pcs]
theorem pcs_succ {n k : Nat} (h : k < n) : pcs n (k + 1) = pcs n k ++ [⟨k, h⟩] := by
  unfold pcs
  rw [List.take_succ_eq_append_getElem (by simpa using h)]
  simp
abbrev encP (s : Int) (E : List Int) (x : Fin E.length) : Array Value := #[.int .i64 (frm s E x.val), .int .i64 (ng E x.val)]
set_option maxRecDepth 100000 in
set_option maxHeartbeats 2000000 in
theorem pieces1_in (F : Fence) (n : Nat) (h7 : F.fn 151) (hro : F.round = none) (hn : 1 ≤ n) (l B1 B2 n₀ : Nat) (s : Int) (A : Option Addr) (c : Nat) (E : List Int) (hl : E.length ≤ 4611686018427387904) (J Jx : List (Fin E.length) → World → Prop)
    (hY : ∀ pre x W, J pre W → pre.length < E.length → YieldAt F (n - 1) Try.prog l (encP s E x) W fun e W' =>
      (e = .returned (.bool true) ∧ J (pre ++ [x]) W' ∧ Below n₀ W W') ∨ (e = .returned (.bool false) ∧ Jx (pre ++ [x]) W'))
    (W : World) (hB1 : W.cell? ⟨B1, 0, none⟩ = some (.int .i64 s)) (hB2 : W.cell? ⟨B2, 0, none⟩ = some (.slice A E.length c))
    (hE : ∀ j, j < E.length → ∃ b o, A = some ⟨b, o, none⟩ ∧ b < n₀ ∧ W.cell? ⟨b, o + j, none⟩ = some (.int .i64 (ng E j))) (h0 : J [] W) :
    CallsIn F n Try.prog 151 #[.func (.yield l) #[] #[], .pointer (some ⟨B1, 0, none⟩), .pointer (some ⟨B2, 0, none⟩)] W fun e W' => (∃ v, e = .returned v) ∧
      ((∃ ys, ys = pcs E.length E.length ∧ J ys W') ∨ (∃ pre, (∃ k, k ≤ E.length ∧ pre = pcs E.length k) ∧ Jx pre W')) := by
  refine callsIn_of_wp Try.func151 rfl h7 ?_ hro
  simp only [Try.ntmps151, List.size_toArray, List.length_cons, List.length_nil, Nat.reduceAdd, Nat.reduceSub, Array.replicate_succ, Array.replicate_zero, List.push_toArray, List.append_toArray, List.nil_append, List.cons_append]
  gi_wp2
  clear hB1 hB2
  gi_loopw [4, 10] (fun f i wr => ∃ k : Nat, k ≤ E.length ∧ f = .int .i64 (frm s E k) ∧ i = .int .i64 k ∧ J (pcs E.length k) wr ∧ Below n₀ W wr) (fun _ i _ => E.length - (intOf i).toNat)
  case atStart => exact ⟨0, Nat.zero_le _, rfl, rfl, by rw [pcs_zero]; exact h0, Below.refl _ _⟩
  case round =>
    obtain ⟨k, hk, rfl, rfl, hJs, hnx⟩ := hrel
    by_cases hlt : k < E.length
    · obtain ⟨b, o, rfl, hb, hc⟩ := hE k hlt
      have hc' := (hnx.cell (p := ⟨b, o + k, none⟩) hb).trans hc
      obtain ⟨fn, tmps, assign, body, hy, hR⟩ := hY _ ⟨k, hlt⟩ wr hJs (by rw [pcs_len hk]; exact hlt)
      dsimp only [encP] at hy
      clear hc
      gi_wp2
      refine hR.mono ?_
      rintro e W3 (⟨rfl, hJ3, hk3⟩ | ⟨rfl, hJx3⟩)
      · gi_wp2
        go_roundw
        case rel => exact ⟨k + 1, by omega, by rw [frm_succ], by simp, by rw [pcs_succ hlt]; exact hJ3, hnx.trans hk3⟩
        case measure => simp [intOf]; omega
      · gi_wp2
        refine bodyPost_ret (results_none rfl _ _ _) rfl ?_
        exact ⟨⟨_, rfl⟩, .inr ⟨_, ⟨k + 1, by omega, (pcs_succ hlt).symm⟩, hJx3⟩⟩
    · obtain rfl : k = E.length := by omega
      gi_wp2
      go_end0
      exact ⟨⟨_, rfl⟩, .inl ⟨_, rfl, hJs⟩⟩
theorem pieces_stops (F : Fence) (n : Nat) (h7 : F.fn 151) (hro : F.round = none) (hn : 1 ≤ n) (B1 B2 n₀ : Nat) (s : Int) (A : Option Addr) (c : Nat) (E : List Int) (hl : E.length ≤ 4611686018427387904) (w : World) (hb1 : B1 < w.heap.size) (hb2 : B2 < w.heap.size) (hn₀ : n₀ ≤ w.heap.size)
    (hB1 : w.cell? ⟨B1, 0, none⟩ = some (.int .i64 s)) (hB2 : w.cell? ⟨B2, 0, none⟩ = some (.slice A E.length c))
    (hE : ∀ j, j < E.length → ∃ b o, A = some ⟨b, o, none⟩ ∧ b < n₀ ∧ w.cell? ⟨b, o + j, none⟩ = some (.int .i64 (ng E j))) :
    SeqStopsK F n Try.prog 151 #[.pointer (some ⟨B1, 0, none⟩), .pointer (some ⟨B2, 0, none⟩)] (encP s E) (Below n₀) (fun ys => ys = pcs E.length E.length) (fun pre => ∃ k, k ≤ E.length ∧ pre = pcs E.length k) E.length w := fun l J Jx W hW _ _ hY h0 =>
  pieces1_in F n h7 hro hn l B1 B2 n₀ s A c E hl J Jx hY W ((hW.cell (p := ⟨B1, 0, none⟩) hb1).trans hB1) ((hW.cell (p := ⟨B2, 0, none⟩) hb2).trans hB2)
    (fun j hj => by
      obtain ⟨b, o, e, hb, hc⟩ := hE j hj
      exact ⟨b, o, e, hb, (hW.cell (p := ⟨b, o + j, none⟩) (Nat.lt_of_lt_of_le hb hn₀)).trans hc⟩) h0
theorem piecesOf_i (s : Int) (A : Option Addr) (n c : Nat) (w : World) :
    Calls Try.prog 138 #[.int .i64 s, .slice A n c] w fun e w' => e = .returned (.func (.func 151) #[] #[.pointer (some ⟨w.heap.size, 0, none⟩), .pointer (some ⟨w.heap.size + 1, 0, none⟩)]) ∧ (w.alloc (.cells #[.int .i64 s] 3)).alloc (.cells #[.slice A n c] 30) = w' := by
  go_enter Try.func138, Try.ntmps138
  go_wp2
  go_ret
  exact ⟨rfl, rfl⟩
end Go.Proofs.Ytmncdpiojhgcdaa

/- The sum of the costs of pages. -/
namespace Go.Proofs.Ytmncdpiojhgcdaa
open Go.ChangeShapes Go.WideShapes Go.ChangeAt Go.RowKit Go.Shelf
set_option linter.unusedVariables false
set_option linter.unusedSimpArgs false
attribute [local go_sem] Oper.semAt_some

theorem keeps_below {W W' : World} (h : Below W.heap.size W W') : KeepsOthers W W' := ⟨h.size, fun k o hk _ => (h.block k (Array.getElem?_eq_some_iff.1 hk).1).trans hk⟩
/-- The sum of f over the first k numbers. -/
def sto (f : Nat → Int) : Nat → Int
  | 0 => 0
  | k + 1 => sto f k + f k
theorem sto_congr {f g : Nat → Int} : ∀ {k : Nat}, (∀ j, j < k → f j = g j) → sto f k = sto g k
  | 0, _ => rfl
  | k + 1, h => by simp only [sto]; rw [sto_congr (fun j hj => h j (by omega)), h k (by omega)]
theorem sto_bd {f : Nat → Int} {M : Int} : ∀ {k : Nat}, (∀ j, j < k → -M ≤ f j ∧ f j ≤ M) → -(M * k) ≤ sto f k ∧ sto f k ≤ M * k
  | 0, _ => by simp [sto]
  | k + 1, h => by
    have a := sto_bd (k := k) (fun j hj => h j (by omega))
    have b := h k (by omega)
    simp only [sto]
    rw [show (((k + 1 : Nat) : Int)) = (k : Int) + 1 by omega, Int.mul_add, Int.mul_one]
    omega
section
variable (s : Int) (E : List Int) (C : Nat → Int → Int → Int × Bool)
/-- What piece number x costs as the j-th. -/
def cAt (j : Nat) (x : Fin E.length) : Int × Bool := C j (frm s E x.val) (ng E x.val)
/-- All of a list of pieces are allowed. -/
def okP (l : List (Fin E.length)) : Prop := ∀ j (h : j < l.length), (cAt s E C j l[j]).2 = true
/-- Their sum. -/
def cO (j : Nat) : Option (Fin E.length) → Int
  | some x => (cAt s E C j x).1
  | none => 0
def sumP (l : List (Fin E.length)) : Int := sto (fun j => cO s E C j l[j]?) l.length
end
variable {s : Int} {E : List Int} {C : Nat → Int → Int → Int × Bool}
theorem okP_bad {l : List (Fin E.length)} {x : Fin E.length} (hx : (cAt s E C l.length x).2 = false) : ¬ okP s E C (l ++ [x]) := fun h => by
  have := h l.length (by simp)
  rw [List.getElem_append_right (Nat.le_refl _)] at this
  simp only [Nat.sub_self, List.getElem_singleton] at this
  rw [hx] at this
  cases this
theorem sumP_bd {M : Int} (hM : ∀ j p q, -M ≤ (C j p q).1 ∧ (C j p q).1 ≤ M) {l : List (Fin E.length)} : -(M * l.length) ≤ sumP s E C l ∧ sumP s E C l ≤ M * l.length := by
  have hM0 : 0 ≤ M := by have := hM 0 0 0; omega
  unfold sumP
  refine sto_bd fun j hj => ?_
  rw [List.getElem?_eq_getElem hj]
  exact hM _ _ _
theorem okP_nil : okP s E C [] := fun j h => by simp at h
theorem okP_snoc {l : List (Fin E.length)} {x : Fin E.length} (h : okP s E C l) (hx : (cAt s E C l.length x).2 = true) : okP s E C (l ++ [x]) := fun j hj => by
  rw [List.length_append] at hj
  simp at hj
  rcases (by omega : j < l.length ∨ j = l.length) with e | e
  · rw [List.getElem_append_left e]; exact h j e
  · subst e
    rw [List.getElem_append_right (Nat.le_refl _)]
    simpa using hx
theorem sumP_nil : sumP s E C [] = 0 := rfl
theorem sumP_snoc {l : List (Fin E.length)} {x : Fin E.length} : sumP s E C (l ++ [x]) = sumP s E C l + (cAt s E C l.length x).1 := by
  unfold sumP
  rw [show (l ++ [x]).length = l.length + 1 by simp]
  simp only [sto]
  congr 1
  · apply sto_congr
    intro j hj
    rw [List.getElem?_append_left hj]
  · simp [cO]
/-- What totalCost answers. -/
def okT (s : Int) (E : List Int) (C : Nat → Int → Int → Int × Bool) (k : Nat) : Prop := ∀ j, j < k → (C j (frm s E j) (ng E j)).2 = true
noncomputable def toO (s : Int) (E : List Int) (C : Nat → Int → Int → Int × Bool) : Int × Bool :=
  open Classical in if okT s E C E.length then (sto (fun j => (C j (frm s E j) (ng E j)).1) E.length, true) else (0, false)
theorem toO_yes (h : okT s E C E.length) : toO s E C = (sto (fun j => (C j (frm s E j) (ng E j)).1) E.length, true) := by
  unfold toO; rw [if_pos h]
theorem toO_no (h : ¬ okT s E C E.length) : toO s E C = (0, false) := by
  unfold toO; rw [if_neg h]
theorem pcs_at {n k j : Nat} (hk : k ≤ n) (hj : j < (pcs n k).length) : ((pcs n k)[j]).val = j := by
  simp [pcs]
theorem okP_pcs {k : Nat} (hk : k ≤ E.length) : okP s E C (pcs E.length k) ↔ okT s E C k := by
  constructor
  · intro h j hj
    have := h j (by rw [pcs_len hk]; exact hj)
    unfold cAt at this
    rwa [pcs_at hk] at this
  · intro h j hj
    unfold cAt
    rw [pcs_at hk]
    exact h j (by rwa [pcs_len hk] at hj)
theorem sumP_pcs {k : Nat} (hk : k ≤ E.length) : sumP s E C (pcs E.length k) = sto (fun j => (C j (frm s E j) (ng E j)).1) k := by
  unfold sumP
  rw [pcs_len hk]
  apply sto_congr
  intro j hj
  rw [List.getElem?_eq_getElem (by rw [pcs_len hk]; exact hj)]
  show (cAt s E C j _).1 = _
  unfold cAt
  rw [pcs_at hk]
end Go.Proofs.Ytmncdpiojhgcdaa
