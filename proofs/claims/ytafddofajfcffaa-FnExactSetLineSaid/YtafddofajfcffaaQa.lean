/- Several texts of one claim, one behind the other. -/
import Derived.WalkKit
import Derived.ProofKit
import Derived.OpenShut
import Derived.Lib.Hide
import Derived.Deep.QuietTactic
import Derived.BigQuiet
import Derived.Deep.Draws
import Derived.Deep.OwnRows
import Derived.OwnWalk
import Derived.Laws.OwnMore
import Derived.Deep.AppendLies
import Derived.Below
import Derived.Deep.RegionHeld3
import Derived.Test.YtafddofajfcffaaRows
import Derived.ShutString
import Derived.ChangeOld
import Derived.Carry
import Derived.Lib.SmallJoins
import Derived.RangeFuncWrites
import Derived.RangeFuncBox
import Derived.RangeFuncLeaves
import Derived.RangeFuncBound
import Derived.RangeFuncCalls
import Derived.Shelf.Abstract
import Derived.LoopTactic
import Derived.Deep.Slices
import Derived.Deep.RegionWith
import Derived.OwnWalkIn
import Derived.TacticsInMore
import Derived.LoopNIn
import Derived.LoopIn
/- Small lemmas that every walk of this repo uses. They speak of no program. -/
namespace Go.Proofs.Ytafddofajfcffaa
open Go.ChangeShapes Go.WideShapes Go.ChangeAt Go.RowKit

section
variable {w W w1 : World} {B : Nat}
theorem bl_refl (w : World) : Below w.heap.size w w := Below.refl _ _
theorem bl_alloc (h : Below w.heap.size w W) (o : Obj) : Below w.heap.size w (W.alloc o) := h.alloc h.size o
theorem bl_set (h : Below w.heap.size w W) {p : Addr} (hp : w.heap.size ≤ p.block) (v : Value) : Below w.heap.size w (W.setCell p v) := h.setCell hp v
theorem bl_drew (h : Below w.heap.size w W) : Below w.heap.size w W.drew := ⟨h.os, h.tape, h.output, h.size, h.block⟩
theorem bl_drewN (h : Below w.heap.size w W) (n : Nat) : Below w.heap.size w (W.drewN n) := ⟨h.os, h.tape, h.output, h.size, h.block⟩
theorem bl_undrew (h : Below W.drew.heap.size W.drew w1) : Below W.heap.size W w1 := ⟨h.os, h.tape, h.output, h.size, h.block⟩
theorem bl_call (h : Below W.heap.size W w1) (h0 : Below w.heap.size w W) : Below w.heap.size w w1 := h0.trans (h.mono h0.size)
theorem bl_sz (h : Below W.heap.size W w1) : W.heap.size ≤ w1.heap.size := h.size
theorem bl_lt (h : Below W.heap.size W w1) : ∀ x, x < W.heap.size → x < w1.heap.size := fun _ hx => Nat.lt_of_lt_of_le hx h.size
theorem keep_cell (h : Below W.heap.size W w1) {p : Addr} {v : Value} (hc : W.cell? p = some v) : w1.cell? p = some v := (h.cell (World.block_lt_of_cell? W _ hc)).trans hc
theorem keep_alloc {p : Addr} {v : Value} (hc : W.cell? p = some v) (o : Obj) : (W.alloc o).cell? p = some v := (World.cell?_alloc_lt W o p (World.block_lt_of_cell? W _ hc)).trans hc
theorem keep_set {p q : Addr} {v : Value} (hc : W.cell? p = some v) (hne : p ≠ q) (u : Value) : (W.setCell q u).cell? p = some v := (World.cell?_setCell_other W q p u (Ne.symm hne)).trans hc
theorem keep_box3 {p : Addr} {v : Value} (hc : W.cell? p = some v) (o : Obj) (a b c : Value) : ((((W.alloc o).setCell ⟨W.heap.size, 0, none⟩ a).setCell ⟨W.heap.size, 1, none⟩ b).setCell ⟨W.heap.size, 2, none⟩ c).cell? p = some v := by
  have hl := World.block_lt_of_cell? W _ hc
  refine keep_set (keep_set (keep_set (keep_alloc hc o) ?_ _) ?_ _) ?_ _
  all_goals
    intro e
    subst e
    simp at hl
theorem keep_swap {p : Addr} {v : Value} {o : Obj} (hc : (W.alloc o).cell? p = some v) (hl : p.block < W.heap.size) (o' : Obj) : (W.alloc o').cell? p = some v :=
  ((World.cell?_alloc_lt W o' p hl).trans (World.cell?_alloc_lt W o p hl).symm).trans hc
theorem keep_set3 {p : Addr} {v : Value} {n : Nat} (hc : W.cell? p = some v) (hl : p.block < n) (a b c : Value) : (((W.setCell ⟨n, 0, none⟩ a).setCell ⟨n, 1, none⟩ b).setCell ⟨n, 2, none⟩ c).cell? p = some v := by
  refine keep_set (keep_set (keep_set hc ?_ _) ?_ _) ?_ _
  all_goals
    intro e
    subst e
    simp at hl
theorem lt_set3 {n : Nat} (hn : n < W.heap.size) (p q r : Addr) (a b c : Value) : n < (((W.setCell p a).setCell q b).setCell r c).heap.size := by simpa using hn
theorem lt_call (h : Below W.heap.size W w1) {n : Nat} (hn : n < W.heap.size) : n < w1.heap.size := Nat.lt_of_lt_of_le hn h.size
theorem lt_alloc {n : Nat} (hn : n < W.heap.size) (o : Obj) : n < (W.alloc o).heap.size := Nat.lt_of_lt_of_le hn (by simp)
theorem lt_box3 {n : Nat} (hn : n < W.heap.size) (o : Obj) (a b c : Value) : n < ((((W.alloc o).setCell ⟨W.heap.size, 0, none⟩ a).setCell ⟨W.heap.size, 1, none⟩ b).setCell ⟨W.heap.size, 2, none⟩ c).heap.size := Nat.lt_of_lt_of_le hn (by simp)
theorem bcell (hb : Below W.heap.size W w1) : (∀ b o, b < W.heap.size → w1.cell? ⟨b, o, none⟩ = W.cell? ⟨b, o, none⟩) ∧ (∀ b o, b < W.heap.size → w1.frozen? ⟨b, o, none⟩ = W.frozen? ⟨b, o, none⟩) :=
  ⟨fun b o h => hb.cell (p := ⟨b, o, none⟩) h, fun b o h => hb.frozen (p := ⟨b, o, none⟩) h⟩
theorem bcell1 {o : Obj} (hb : Below (W.alloc o).heap.size (W.alloc o) w1) : (∀ b k, b < W.heap.size → w1.cell? ⟨b, k, none⟩ = W.cell? ⟨b, k, none⟩) ∧ (∀ b k, b < W.heap.size → w1.frozen? ⟨b, k, none⟩ = W.frozen? ⟨b, k, none⟩) := by
  have h : Below W.heap.size W w1 := bl_call hb (bl_alloc (bl_refl _) _)
  exact bcell h
theorem bcell2 {o o' : Obj} (hb : Below ((W.alloc o).alloc o').heap.size ((W.alloc o).alloc o') w1) : (∀ b k, b < W.heap.size → w1.cell? ⟨b, k, none⟩ = W.cell? ⟨b, k, none⟩) ∧ (∀ b k, b < W.heap.size → w1.frozen? ⟨b, k, none⟩ = W.frozen? ⟨b, k, none⟩) := by
  have h : Below W.heap.size W w1 := bl_call hb (bl_alloc (bl_alloc (bl_refl _) _) _)
  exact bcell h
end

theorem bool_ret {a b : Bool} (h : a = b) : Ending.returned (.bool a) = .returned (.bool b) := by rw [h]
theorem int_ret {k : IntKind} {a b : Int} (h : a = b) : Ending.returned (.int k a) = .returned (.int k b) := by rw [h]
theorem str_ret {a b : ByteArray} (h : a = b) : Ending.returned (.string a) = .returned (.string b) := by rw [h]
theorem val_ret {a b : Value} (h : a = b) : Ending.returned a = .returned b := by rw [h]
theorem tup2_ret {a b c d : Value} (h : a = c) (k : b = d) : Ending.returned (.tuple #[a, b]) = .returned (.tuple #[c, d]) := by rw [h, k]
theorem int_val {k : IntKind} {a b : Int} (h : a = b) : Value.int k a = Value.int k b := by rw [h]
theorem bool_val {a b : Bool} (h : a = b) : Value.bool a = Value.bool b := by rw [h]

theorem hide {p : Prop} (h : p) : Hid p := h
end Go.Proofs.Ytafddofajfcffaa

/- What every row's step of this repo uses: the program's own facts, and how an argument that is a slice of integers is told to a walk. -/
namespace Go.Proofs.Ytafddofajfcffaa
open Go.ChangeShapes Go.WideShapes Go.ChangeAt Go.RowKit

theorem own_knob : ownKnob Try.prog.godebug = none := by kernel_rfl
theorem laid_out : laidOutB Try.prog = true := by kernel_rfl

/-- What a walk is told of a slice of integers that came in: it is nil; or it leads to a row of 'cap' cells, the numbers 'zs'. -/
def IsRow (k : IntKind) (w : World) (a : Option Addr) (len cap : Nat) (zs : List Int) : Prop :=
  (a = none ∧ len = 0 ∧ cap = 0 ∧ zs = []) ∨
  ∃ x, a = some x ∧ len ≤ cap ∧ cap ≤ maxLen ∧ zs.length = cap ∧ (∀ i, i < zs.length → w.cell? (x.add i) = some (.int k (zs.getD i 0))) ∧ ∀ n ∈ zs, (Lit.int k n).wf = true

theorem isRow_of {H : Type} {enc : TypeId × Value → H} {P : Program} {w : World} {base : Nat} {held : Bool} {t e : TypeId} {k : IntKind} {a : Option Addr} {len cap : Nat} {d : DataW H} {p : List MemPlace}
    (ht : P.underlying t = some (.slice e)) (he : P.underlying e = some (.int k)) (hc : P.cellsOf e = 1) (h : DataW.Trod enc P w base (fun _ => true) held t (.slice a len cap) d p) : ∃ zs, IsRow k w a len cap zs := by
  obtain ⟨fuel, hf⟩ := h
  rcases open_ints ht he hc hf with ⟨hcs, _⟩ | ⟨x, l, c, zs, hcs, _, hl, hm, hz, _, hcell, hwz⟩
  · simp [Value.cells] at hcs
    obtain ⟨rfl, rfl, rfl⟩ := hcs
    exact ⟨[], .inl ⟨rfl, rfl, rfl, rfl⟩⟩
  · simp [Value.cells] at hcs
    obtain ⟨rfl, rfl, rfl⟩ := hcs
    exact ⟨zs, .inr ⟨_, rfl, hl, hm, by simpa using hz, hcell, hwz⟩⟩
end Go.Proofs.Ytafddofajfcffaa

/- The closed facts on how this program was made, which every statement of the seat asks, proved once: the words of its head are spelt out first (String.toList of a long text is slow in the kernel). -/
namespace Go.Proofs.Ytafddofajfcffaa
open Go.ChangeShapes Go.WideShapes Go.ChangeAt Go.RowKit
set_option linter.unusedVariables false

set_option maxRecDepth 100000 in
theorem words_head : ∃ l : List Char, Try.pinned.checked.prog.initOrder.toList = l ∧ (behindMainWord (wordsSigns l)).head? = some "cut".toList := by
  refine ⟨_, String.toList_ofList, ?_⟩
  kernel_rfl
theorem words_cut : ∃ rest, behindMainWord (wordsSigns Try.pinned.checked.prog.initOrder.toList) = "cut".toList :: rest := by
  obtain ⟨l, h, k⟩ := words_head
  rw [h]
  cases q : behindMainWord (wordsSigns l) with
  | nil => rw [q] at k; cases k
  | cons a b => rw [q] at k; injection k with k; rw [k]; exact ⟨b, rfl⟩
theorem strip_cut (rest : List (List Char)) : stripLifts liftWords ("cut".toList :: rest) = ([], "cut".toList :: rest) := by kernel_rfl
theorem may_gen (P : Program) (rest : List (List Char)) (h : behindMainWord (wordsSigns P.initOrder.toList) = "cut".toList :: rest) (a : P.laysLater = false) (b : P.bearsReflect = false) (c : P.doorFits [] = true) : P.mayEnter = true := by
  unfold Program.mayEnter
  rw [h]
  simp only [strip_cut, a, b, c]
  kernel_rfl
theorem lift_gen (P : Program) (rest : List (List Char)) (h : behindMainWord (wordsSigns P.initOrder.toList) = "cut".toList :: rest) : P.liftsFinal = false := by
  unfold Program.liftsFinal Program.headLifts
  rw [h]
  simp only [strip_cut]
  kernel_rfl
theorem make_gen (P : Program) (rest : List (List Char)) (h : behindMainWord (wordsSigns P.initOrder.toList) = "cut".toList :: rest) : P.make = some .cut := by
  unfold Program.make
  rw [h]
  kernel_rfl
theorem may_enter : Try.pinned.checked.prog.mayEnter = true := by
  obtain ⟨rest, h⟩ := words_cut
  exact may_gen _ rest h (by kernel_rfl) (by kernel_rfl) (by kernel_rfl)
theorem lifts_final : Try.pinned.checked.prog.liftsFinal = false := by
  obtain ⟨rest, h⟩ := words_cut
  exact lift_gen _ rest h
theorem make_cut : Try.pinned.checked.prog.make = some .cut := by
  obtain ⟨rest, h⟩ := words_cut
  exact make_gen _ rest h
end Go.Proofs.Ytafddofajfcffaa

/- A range over a function whose values come in a known order and whose body always ends in the ordinary way: the body may assume which value it is handed. It speaks of no program. -/
namespace Go.Proofs.Ytafddofajfcffaa
open Go.ChangeShapes Go.WideShapes Go.ChangeAt Go.RowKit Go.Shelf
set_option linter.unusedVariables false

/-- The iterator hands on N values, the k-th of which is 'enc k'. -/
def SeqN (F : Fence) (n : Nat) (P : Program) (gf : Nat) (lb : Array Value) (enc : Nat → Array Value) (Kp : World → World → Prop) (N : Nat) (w : World) : Prop :=
  ∀ (l : Nat) (J : Nat → World → Prop) (W : World), Below w.heap.size w W → AbidesFrom W.heap.size J →
    (∀ k W1, k < N → J k W1 → YieldAt F (n - 1) P l (enc k) W1 fun e W' => e = .returned (.bool true) ∧ J (k + 1) W' ∧ Kp W1 W') → J 0 W →
    CallsIn F n P gf (#[.func (.yield l) #[] #[]] ++ lb) W fun e W' => (∃ v, e = .returned v) ∧ J N W'
/-- What the body of a round leaves. -/
def BdN (B : Nat) (Kp : World → World → Prop) (I : World → Prop) (W : World) : Exit → Act → World → Prop
  | .normal, _, W' => KeepsFrom B W W' ∧ Kp W W' ∧ I W'
  | _, _, _ => False
theorem range_seq {F : Fence} {n : Nat} {P : Program} {g : Operand} {ps : Array Tmp} {assign body : Code} {Q : Exit → Act → World → Prop} {a : Act} {w : World}
    (hro : F.round = none) (h1 : 1 ≤ n) {gf : Nat} {lb : Array Value} (hg : a.eval g = .func (.func gf) #[] lb) (hFg : F.fn gf) (eg : ∀ args w, (callFunc gf args).run P w = .ok (.enter gf args) w)
    {enc : Nat → Array Value} {Kp : World → World → Prop} {N : Nat} {w0 : World} (hseq : SeqN F (n - 1) P gf lb enc Kp N w0)
    (hKt : ∀ {A B C : World}, Kp A B → Kp B C → Kp A C) (hKb : ∀ (W : World) (l : Nat) (o o' : Obj), w.heap.size ≤ l → W.heap[l]? = some o → o.isCells = false → o.isWalk = false → Kp W (W.putObj l o'))
    (hb0 : Below w0.heap.size w0 w) (hps : ∀ k, (enc k).size = ps.size) (I : Nat → World → Prop) (hI : OwnFrom w.heap.size I) (h0 : I 0 w) (fr : Nat → Act)
    (hassign : ∀ (l k : Nat) (W : World) (K : Act → World → Prop), k < N → K (fr k) W →
      assign.wpIn (F.inRound l) (n - 1 - 1) P (Exit.then K (fun _ _ _ => False)) { tmps := (ps.zip (enc k)).foldl (fun t (p, v) => t.setIfInBounds p v) a.tmps, defers := [] } W)
    (hbody : ∀ (l k : Nat) (W : World), k < N → I k W → body.wpIn (F.inRound l) (n - 1 - 1) P (BdN w.heap.size Kp (I (k + 1)) W) (fr k) W)
    (hdone : ∀ (D : Nat) (W : World), w.heap.size ≤ D → I N W → W.heap[D]? = some (.deferred (some [])) → Q .normal { a with defers := { target := .collected D, args := #[] } :: a.defers } W) :
    (Code.rangeFunc g ps assign body).wpIn F n P Q a w := by
  refine wpIn_rangeFunc fun fn hfn => ?_
  rw [hro]
  -- the loop's record, in its states
  obtain ⟨R, hR⟩ : ∃ R : LoopState → Loop, R = fun s => { state := s, pending := none, fn, tmps := a.tmps, params := ps, assign, body, defers := w.heap.size } := ⟨_, rfl⟩
  have Rp : ∀ s, (R s).pending = none := fun s => by rw [hR]
  have Rs : ∀ s, (R s).state = s := fun s => by rw [hR]
  have Rb : ∀ s t, { R s with state := t } = R t := fun s t => by rw [hR]
  obtain ⟨V, hV⟩ : ∃ V, V = (w.alloc (.deferred (some []))).alloc (.loop (R .ready)) := ⟨_, rfl⟩
  have hVL : V.heap[w.heap.size + 1]? = some (.loop (R .ready)) := by
    rw [hV]
    simpa using World.alloc_heap_new (w.alloc (.deferred (some []))) (.loop (R .ready))
  have hVD : V.heap[w.heap.size]? = some (.deferred (some [])) := by
    rw [hV]
    exact (Below.heap_alloc _ _ _ (by simp)).trans (World.alloc_heap_new w _)
  have hVz : V.heap.size = w.heap.size + 2 := by rw [hV]; simp
  have hVI : I 0 V := by rw [hV]; exact hI.alloc _ (hI.alloc _ h0)
  have hVB : Below w0.heap.size w0 V := by
    rw [hV]
    exact bl_alloc (bl_alloc hb0 _) _
  refine ⟨w.heap.size + 1, [{ target := .collected w.heap.size, args := #[] }], V, { target := .fn (.func gf) lb, args := #[.func (.yield (w.heap.size + 1)) #[] #[]] }, V, gf, #[.func (.yield (w.heap.size + 1)) #[] #[]] ++ lb, V, ?_, ?_, ?_, ?_, fun _ => h1, ?_⟩
  · rw [hV, hR]; exact run_enterLoop_outer _ _ _ _ _
  · simp only [resolve, hg]
    simp [go_sem]
  · intro f hf
    simp [Target.leads] at hf
    subst hf
    exact hFg
  · simp [invoke, go_sem, eg]
  -- what stands between two rounds
  have far : ∀ {A B : World} {row : Option Nat} {o : Obj} {m : Nat}, A.grownBy B row → (∀ r, row = some r → V.heap.size ≤ r ∧ ∃ o : Obj, A.heap[r]? = some o ∧ o.isWalk = true) → m < V.heap.size → A.heap[m]? = some o → B.heap[m]? = some o := fun hg hr hm ho =>
    (hg.block _ (Array.getElem?_eq_some_iff.1 ho).1 (fun e => by have := (hr _ e.symm).1; omega)).trans ho
  refine (hseq (w.heap.size + 1) (fun k W => I k W ∧ W.heap[w.heap.size + 1]? = some (.loop (R .ready)) ∧ W.heap[w.heap.size]? = some (.deferred (some []))) V hVB (fun k A B row h hg hr => ?_) (fun k W hk h => ?_) ⟨hVI, hVL, hVD⟩).mono ?_
  · exact ⟨hI k A B row h.1 hg (fun r e => by obtain ⟨q1, o, q2, q3⟩ := hr r e; exact ⟨by omega, o, q2, Obj.not_cells_of_walk q3⟩), far hg hr (by omega) h.2.1, far hg hr (by omega) h.2.2⟩
  · obtain ⟨hi, hl, hd⟩ := h
    have hlt : w.heap.size + 1 < W.heap.size := (Array.getElem?_eq_some_iff.1 hl).1
    have hy := run_yield (P := P) (args := enc k) hl (by rw [hR]; exact hps k)
    rw [hR] at hy
    obtain ⟨U, hU⟩ : ∃ U, U = W.putObj (w.heap.size + 1) (.loop (R .busy)) := ⟨_, rfl⟩
    have hUL : U.heap[w.heap.size + 1]? = some (.loop (R .busy)) := by rw [hU]; exact World.putObj_heap_same hlt
    have hUD : U.heap[w.heap.size]? = some (.deferred (some [])) := by rw [hU]; exact (World.putObj_heap_other (by omega)).trans hd
    have hUI : I k U := by rw [hU]; exact hI.putObj _ hi (by omega) hl rfl
    have hUK : Kp W U := by rw [hU]; exact hKb _ _ _ _ (by omega) hl rfl rfl
    have hbg := run_beginRound (P := P) hl (Rs .ready)
    rw [Rb, ← hU] at hbg
    refine ⟨fn, _, assign, body, hy, roundIn_of_wpIn hfn (hassign _ k W _ hk ⟨U, hbg, wpIn_mono (hbody _ k U hk hUI) ?_⟩)⟩
    rintro e b W3 hp
    cases e with
    | normal =>
      obtain ⟨q1, q2, q3⟩ := hp
      have l3 := q1.same _ _ (by omega) hUL rfl
      have d3 := q1.same _ _ (Nat.le_refl _) hUD rfl
      have he := run_endRound (P := P) none l3
      rw [show ({ R .busy with state := if (none : Option Code).isNone then LoopState.ready else LoopState.done, pending := none } : Loop) = R .ready by rw [hR]; rfl] at he
      exact ⟨_, _, he, rfl, ⟨hI.putObj _ q3 (by omega) l3 rfl, World.putObj_heap_same (Array.getElem?_eq_some_iff.1 l3).1, (World.putObj_heap_other (by omega)).trans d3⟩, hKt (hKt hUK q2) (hKb _ _ _ _ (by omega) l3 rfl rfl)⟩
    | ret => exact hp.elim
    | exit id => exact hp.elim
    | goto t => exact hp.elim
    | panic ch => exact hp.elim
    | outgrown => exact hp.elim
  · rintro e W2 ⟨⟨v, rfl⟩, hi, hl, hd⟩
    have he := run_endLoop (P := P) hl (by rw [Rs]; simp)
    rw [Rp] at he
    exact ⟨none, _, he, hdone _ _ (Nat.le_refl _) (hI.putObj _ hi (by omega) hl rfl) ((World.putObj_heap_other (by omega)).trans hd)⟩
end Go.Proofs.Ytafddofajfcffaa

/- Contracts of the functions of glue: each returns what its text computes and writes nothing that was there. -/
namespace Go.Proofs.Ytafddofajfcffaa
open Go.ChangeShapes Go.WideShapes Go.ChangeAt Go.RowKit

abbrev gv (a b c : Int) : Value := .agg #[.int .i64 a, .int .i64 b, .int .i64 c]

/-- Whether a number lies between two others. -/
def inB (n l h : Int) : Bool := decide (l ≤ n ∧ n ≤ h)
theorem inB_yes {n l h : Int} (a : l ≤ n) (b : n ≤ h) : inB n l h = true := by simp [inB]; omega
theorem inB_no {n l h : Int} (a : ¬ (l ≤ n ∧ n ≤ h)) : inB n l h = false := by simp [inB]; omega
theorem inB_iff {n l h : Int} : inB n l h = true ↔ l ≤ n ∧ n ≤ h := by simp [inB]

theorem within_any (n l h : Int) (w : World) :
    Calls Try.prog 119 #[.int .i64 n, .int .i64 l, .int .i64 h] w fun e w' => e = .returned (.bool (inB n l h)) ∧ w = w' := by
  by_cases h1 : l ≤ n <;> by_cases h2 : n ≤ h
  all_goals
    go_enter Try.func119, Try.ntmps119
    go_wp2
    go_ret
    exact ⟨bool_ret (by simp [inB, *]), rfl⟩

theorem inRange_any (n l h : Int) (w : World) :
    Calls Try.prog 96 #[.int .i64 n, .int .i64 l, .int .i64 h] w fun e w' => e = .returned (.bool (inB n l h)) ∧ w = w' := by
  by_cases h1 : l ≤ n <;> by_cases h2 : n ≤ h
  all_goals
    go_enter Try.func96, Try.ntmps96
    go_wp2
    go_ret
    exact ⟨bool_ret (by simp [inB, *]), rfl⟩

/-- Whether glue is valid. -/
def vg (a b c : Int) : Bool := inB a (-10000) 10000 && inB b 0 10000 && inB c 0 10000
theorem vg_iff {a b c : Int} : vg a b c = true ↔ (-10000 ≤ a ∧ a ≤ 10000) ∧ (0 ≤ b ∧ b ≤ 10000) ∧ (0 ≤ c ∧ c ≤ 10000) := by simp [vg, inB]; omega

theorem valid_any (a b c : Int) (w : World) :
    Calls Try.prog 158 #[gv a b c] w fun e w' => e = .returned (.bool (vg a b c)) ∧ Below w.heap.size w w' := by
  go_enter Try.func158, Try.ntmps158
  go_wp2_with (go_at_call 119; refine (within_any _ _ _ _).mono ?_; rintro e w' ⟨rfl, rfl⟩)
  all_goals
    go_ret
    refine ⟨bool_ret (by simp [vg, *]), bl_alloc (bl_refl _) _⟩


def bad (n h : Int) : Int := if n = 0 then 0 else if h = 0 then 10000 else min (100 * n * n * n / (h * h * h)) 10000
theorem bad_zero (h : Int) : bad 0 h = 0 := by simp [bad]
theorem bad_none (n : Int) (hn : n ≠ 0) : bad n 0 = 10000 := by simp [bad, hn]
theorem bad_big (n h : Int) (h0 : 0 < h) (hn : 5 * h < n) : bad n h = 10000 := by
  have hne : n ≠ 0 := by omega
  have hh : h ≠ 0 := by omega
  rw [bad, if_neg hne, if_neg hh]
  have h3 : 0 < h * h * h := Int.mul_pos (Int.mul_pos h0 h0) h0
  have e1 : (5 * h) * (5 * h) ≤ n * n := Int.mul_le_mul (by omega) (by omega) (by omega) (by omega)
  have e2 : (5 * h) * (5 * h) * (5 * h) ≤ n * n * n := Int.mul_le_mul e1 (by omega) (by omega) (Int.mul_nonneg (by omega) (by omega))
  have e3 : (5 * h) * (5 * h) * (5 * h) = 125 * (h * h * h) := by
    simp only [Int.mul_assoc, Int.mul_left_comm h]; omega
  have e4 : 100 * n * n * n = 100 * (n * n * n) := by simp only [Int.mul_assoc]
  have : 10000 ≤ 100 * n * n * n / (h * h * h) := by
    rw [Int.le_ediv_iff_mul_le h3]; omega
  omega
theorem cube_bd (n M : Int) (h0 : 0 ≤ n) (hM : n ≤ M) : 0 ≤ n * n ∧ n * n ≤ M * M ∧ 0 ≤ n * n * n ∧ n * n * n ≤ M * M * M := by
  have a := Int.mul_nonneg h0 h0
  have b : n * n ≤ M * M := Int.mul_le_mul hM hM h0 (by omega)
  exact ⟨a, b, Int.mul_nonneg a h0, Int.mul_le_mul b hM h0 (by have := Int.mul_nonneg (Int.le_trans h0 hM) (Int.le_trans h0 hM); omega)⟩
theorem cube_100 (n : Int) : 100 * n * n = 100 * (n * n) ∧ 100 * n * n * n = 100 * (n * n * n) := by simp only [Int.mul_assoc, and_self]

theorem badnessOf_any (n h : Int) (w : World) (n0 : 0 ≤ n) (n1 : n ≤ 20000) (h0 : 0 ≤ h) (h1 : h ≤ 10000) :
    Calls Try.prog 159 #[.int .i64 n, .int .i64 h] w fun e w' => e = .returned (.int .i64 (bad n h)) ∧ w = w' := by
  obtain ⟨a1, a2, a3, a4⟩ := cube_bd n 20000 n0 n1
  obtain ⟨b1, b2, b3, b4⟩ := cube_bd h 10000 h0 h1
  obtain ⟨c1, c2⟩ := cube_100 n
  have d1 : 0 ≤ 100 * n * n := by omega
  have d2 : 100 * n * n ≤ 40000000000 := by omega
  have d3 : 0 ≤ 100 * n * n * n := by omega
  have d4 : 100 * n * n * n ≤ 800000000000000 := by omega
  clear c1 c2
  by_cases z : n = 0
  · subst z
    go_enter Try.func159, Try.ntmps159
    go_wp2
    go_ret
    exact ⟨int_ret (bad_zero h).symm, rfl⟩
  · by_cases y : h = 0
    · subst y
      go_enter Try.func159, Try.ntmps159
      go_wp2
      go_ret
      exact ⟨int_ret (bad_none n z).symm, rfl⟩
    · have hp : 0 < h * h * h := Int.mul_pos (Int.mul_pos (by omega) (by omega)) (by omega)
      have e : bad n h = min (100 * n * n * n / (h * h * h)) 10000 := by simp [bad, z, y]
      have E := Lib.hid e; clear e
      go_enter Try.func159, Try.ntmps159
      go_wp2
      all_goals
        go_ret
        exact ⟨int_ret (by rw [E.out]; omega), rfl⟩

theorem badness_s (n h : Int) (w : World) (n0 : 0 ≤ n) (n1 : n ≤ 20000) (h0 : 0 ≤ h) (h1 : h ≤ 10000) :
    Calls Try.prog 132 #[.int .i64 n, .int .i64 h] w fun e w' => e = .returned (.int .i64 (bad n h)) ∧ w = w' := by
  obtain ⟨a1, a2, a3, a4⟩ := cube_bd n 20000 n0 n1
  obtain ⟨b1, b2, b3, b4⟩ := cube_bd h 10000 h0 h1
  obtain ⟨c1, c2⟩ := cube_100 n
  have d1 : 0 ≤ 100 * n * n := by omega
  have d2 : 100 * n * n ≤ 40000000000 := by omega
  have d3 : 0 ≤ 100 * n * n * n := by omega
  have d4 : 100 * n * n * n ≤ 800000000000000 := by omega
  clear c1 c2
  by_cases z : n = 0
  · subst z
    go_enter Try.func132, Try.ntmps132
    go_wp2
    go_ret
    exact ⟨int_ret (bad_zero h).symm, rfl⟩
  · by_cases y : h = 0
    · subst y
      go_enter Try.func132, Try.ntmps132
      go_wp2
      go_ret
      exact ⟨int_ret (bad_none n z).symm, rfl⟩
    · have hp : 0 < h * h * h := Int.mul_pos (Int.mul_pos (by omega) (by omega)) (by omega)
      by_cases x : 5 * h < n
      · go_enter Try.func132, Try.ntmps132
        go_wp2
        go_ret
        exact ⟨int_ret (bad_big n h (by omega) x).symm, rfl⟩
      · have e : bad n h = min (100 * n * n * n / (h * h * h)) 10000 := by simp [bad, z, y]
        have E := Lib.hid e; clear e
        go_enter Try.func132, Try.ntmps132
        go_wp2
        all_goals
          go_ret
          exact ⟨int_ret (by rw [E.out]; omega), rfl⟩

/-- What Badness returns. -/
def badv (n h : Int) : Int := if inB n 0 10000 && inB h 0 10000 then bad n h else -1



theorem plus_i (a b c x y z : Int) (w : World) (h1 : -10000 ≤ a ∧ a ≤ 10000) (h2 : 0 ≤ b ∧ b ≤ 10000) (h3 : 0 ≤ c ∧ c ≤ 10000) (k1 : -10000 ≤ x ∧ x ≤ 10000) (k2 : 0 ≤ y ∧ y ≤ 10000) (k3 : 0 ≤ z ∧ z ≤ 10000) :
    Calls Try.prog 117 #[gv a b c, gv x y z] w fun e w' => e = .returned (gv (a + x) (b + y) (c + z)) ∧ Below w.heap.size w w' := by
  obtain ⟨h1, h1'⟩ := h1; obtain ⟨h2, h2'⟩ := h2; obtain ⟨h3, h3'⟩ := h3
  obtain ⟨k1, k1'⟩ := k1; obtain ⟨k2, k2'⟩ := k2; obtain ⟨k3, k3'⟩ := k3
  go_enter Try.func117, Try.ntmps117
  go_wp2
  refine bodyPost_ret (v := gv (a + x) (b + y) (c + z)) (by simp [results, Try.results117, go_sem]) rfl ⟨rfl, ?_⟩
  repeat' (first | exact bl_refl _ | refine bl_alloc ?_ _ | refine bl_set ?_ ?_ _ | refine bl_call (by assumption) ?_)
  all_goals (simp; try omega)

theorem addGlue_s (a b c x y z : Int) (w : World) (h1 : -10000 ≤ a ∧ a ≤ 10000) (h2 : 0 ≤ b ∧ b ≤ 10000) (h3 : 0 ≤ c ∧ c ≤ 10000) (k1 : -10000 ≤ x ∧ x ≤ 10000) (k2 : 0 ≤ y ∧ y ≤ 10000) (k3 : 0 ≤ z ∧ z ≤ 10000) :
    Calls Try.prog 133 #[gv a b c, gv x y z] w fun e w' => e = .returned (gv (a + x) (b + y) (c + z)) ∧ Below w.heap.size w w' := by
  obtain ⟨h1, h1'⟩ := h1; obtain ⟨h2, h2'⟩ := h2; obtain ⟨h3, h3'⟩ := h3
  obtain ⟨k1, k1'⟩ := k1; obtain ⟨k2, k2'⟩ := k2; obtain ⟨k3, k3'⟩ := k3
  go_enter Try.func133, Try.ntmps133
  go_wp2
  refine bodyPost_ret (v := gv (a + x) (b + y) (c + z)) (by simp [results, Try.results133, go_sem]) rfl ⟨rfl, ?_⟩
  repeat' (first | exact bl_refl _ | refine bl_alloc ?_ _ | refine bl_set ?_ ?_ _ | refine bl_call (by assumption) ?_)
  all_goals (simp; try omega)



/-- What AddGlue returns. -/
def addOk (a b c x y z : Int) : Bool := vg a b c && vg x y z && vg (a + x) (b + y) (c + z)
def addv (a b c x y z : Int) : Value := if addOk a b c x y z then .tuple #[gv (a + x) (b + y) (c + z), .bool true] else .tuple #[gv 0 0 0, .bool false]

end Go.Proofs.Ytafddofajfcffaa

/- Slices of integers as lists: what they read, what the call owns. They speak of no program. -/
namespace Go.Proofs.Ytafddofajfcffaa
open Go.ChangeShapes Go.WideShapes Go.ChangeAt Go.RowKit
set_option linter.unusedVariables false

/-- The k-th number. -/
def ng (l : List Int) (k : Nat) : Int := l.getD k 0
theorem ng_lt {l : List Int} {k : Nat} (h : k < l.length) : ng l k = l[k] := by simp [ng, List.getD, List.getElem?_eq_getElem h]
theorem ng_get {l : List Int} {k : Nat} (h : k < l.length) : l[k]? = some (ng l k) := by rw [ng_lt h, List.getElem?_eq_getElem h]
theorem ng_mem {l : List Int} {k : Nat} (h : k < l.length) : ng l k ∈ l := by rw [ng_lt h]; exact List.getElem_mem h
/-- Two lists agree in their first k numbers. -/
def Agr (l m : List Int) (k : Nat) : Prop := ∀ j, j < k → ng l j = ng m j
theorem Agr.zero (l m : List Int) : Agr l m 0 := fun j hj => by omega
theorem Agr.step {l m : List Int} {k : Nat} (h : Agr l m k) (hk : ng l k = ng m k) : Agr l m (k + 1) := fun j hj => by
  rcases (by omega : j < k ∨ j = k) with e | e
  · exact h j e
  · rw [e]; exact hk
theorem Agr.all {l m : List Int} (hl : l.length = m.length) (h : Agr l m l.length) : l = m :=
  List.ext_getElem hl fun j h1 h2 => by have := h j h1; rwa [ng_lt h1, ng_lt h2] at this

theorem on_set' {a w : World} {g : Nat} (h : a.grownBy w (some g)) {p : Addr} (hp : p.block = g ∨ a.heap.size ≤ p.block) (u : Value) : a.grownBy (w.setCell p u) (some g) :=
  ⟨h.os, h.tape, h.output, by simpa [World.setCell] using h.size, fun i hi hne => (Below.heap_setCell w p u i (by
    rintro rfl
    rcases hp with hp | hp
    · exact hne (by rw [hp])
    · omega)).trans (h.block i hi hne)⟩
theorem below_new {a w : World} (h : a.grownBy w none) : Below a.heap.size a w := ⟨h.os, h.tape, h.output, h.size, fun i hi => h.block i hi (fun e => by cases e)⟩
/-- A slice that reads as a list of numbers. -/
def IL (w : World) (A : Option Addr) (n : Nat) (l : List Int) : Prop :=
  n = l.length ∧ (0 < n → ∃ b o, A = some ⟨b, o, none⟩ ∧ b < w.heap.size ∧ ∀ i, i < n → w.cell? ⟨b, o + i, none⟩ = some (.int .i64 (ng l i)))
/-- A slice that the call made, of blocks from B on, which holds a list of numbers. -/
def OL (w : World) (e : TypeId) (B : Nat) (A : Option Addr) (c : Nat) (l : List Int) : Prop := w.ownsRow B e 1 (.slice A l.length c) l.length (l.map (Value.int .i64))

section
variable {w w' : World} {A : Option Addr} {n c B B' : Nat} {e : TypeId} {l : List Int}
theorem IL.at_ (h : IL w A n l) {i : Nat} (hi : i < n) : ∃ b o, A = some ⟨b, o, none⟩ ∧ b < w.heap.size ∧ w.cell? ⟨b, o + i, none⟩ = some (.int .i64 (ng l i)) := by
  obtain ⟨b, o, e, hb, hc⟩ := h.2 (by omega)
  exact ⟨b, o, e, hb, hc i hi⟩
theorem IL.nil (w : World) (A : Option Addr) : IL w A 0 [] := ⟨rfl, fun h => by omega⟩
theorem IL.below (h : IL w A n l) (hb : Below w.heap.size w w') : IL w' A n l :=
  ⟨h.1, fun h0 => by
    obtain ⟨b, o, e, hl, hc⟩ := h.2 h0
    exact ⟨b, o, e, Nat.lt_of_lt_of_le hl hb.size, fun i hi => keep_cell hb (hc i hi)⟩⟩
theorem IL.alloc (h : IL w A n l) (o : Obj) : IL (w.alloc o) A n l := h.below (bl_alloc (bl_refl _) _)
theorem IL.drewN (h : IL w A n l) (k : Nat) : IL (w.drewN k) A n l := h
theorem IL.drew (h : IL w A n l) : IL w.drew A n l := h
theorem OL.drewN (h : OL w e B A c l) (k : Nat) : OL (w.drewN k) e B A c l := h
theorem OL.drew (h : OL w e B A c l) : OL w.drew e B A c l := h
theorem OL.more (h : OL w e B A c l) (hB : B' ≤ B) : OL w e B' A c l := by
  refine ⟨h.1, ?_⟩
  rcases h.2 with h0 | ⟨g, cap, cur, h1, h2, h3⟩
  · exact .inl h0
  · exact .inr ⟨g, cap, cur, h1, by omega, h3⟩
theorem OL.own_lt (h : OL w e B A c l) : ∀ k, (Value.slice A l.length c).ownBlock = some k → B ≤ k ∧ k < w.heap.size := fun k hk => World.ownsRow.lt h k hk
theorem OL.below (h : OL w e B A c l) (hb : Below w.heap.size w w') : OL w' e B A c l := by
  refine ⟨h.1, ?_⟩
  rcases h.2 with h0 | ⟨g, cap, cur, h1, h2, h3, h4⟩
  · exact .inl h0
  · refine .inr ⟨g, cap, cur, h1, h2, ?_, h4⟩
    rw [hb.block g (Array.getElem?_eq_some_iff.1 h3).1]
    exact h3
theorem OL.alloc (h : OL w e B A c l) (o : Obj) : OL (w.alloc o) e B A c l := h.below (bl_alloc (bl_refl _) _)
theorem OL.kept {row : Option Nat} (h : OL w e B A c l) (hg : w.grownBy w' row) (hne : ∀ k, (Value.slice A l.length c).ownBlock = some k → row ≠ some k) : OL w' e B A c l := by
  refine World.ownsRow.kept h hg ?_
  cases hv : (Value.slice A l.length c).ownBlock with
  | none => exact .inl rfl
  | some k => exact .inr (fun e => hne k hv e.symm)
theorem OL.nil (w : World) (e : TypeId) (B : Nat) : OL w e B none 0 [] := World.ownsRow_nil _ _ _ _
theorem OL.form (h : OL w e B A c l) (h0 : 0 < l.length) : ∃ g, A = some ⟨g, 0, none⟩ ∧ B ≤ g ∧ g < w.heap.size ∧ l.length ≤ c ∧ c ≤ maxLen := by
  rcases h.2 with ⟨_, h1⟩ | ⟨g, cap, cur, h1, h2, h3, h4, h5, _⟩
  · omega
  · injection h1 with h1 _ h6
    subst h6
    exact ⟨g, h1, h2, (Array.getElem?_eq_some_iff.1 h3).1, h4, h5⟩
theorem OL.len (h : OL w e B A c l) : l.length ≤ maxLen := by
  rcases Nat.eq_zero_or_pos l.length with h0 | h0
  · omega
  · obtain ⟨_, _, _, _, h1, h2⟩ := h.form h0
    omega
theorem OL.reads (h : OL w e B A c l) : IL w A l.length l := by
  refine ⟨rfl, fun h0 => ?_⟩
  obtain ⟨g, rfl, _, hg, _⟩ := h.form h0
  refine ⟨g, 0, rfl, hg, fun i hi => ?_⟩
  have := World.ownsRow.cellAt h i (by omega)
  rw [Nat.zero_add, this]
  simp [ng_get hi]
theorem OL.frozen (h : OL w e B A c l) (h0 : 0 < l.length) : ∃ g, A = some ⟨g, 0, none⟩ ∧ B ≤ g ∧ g < w.heap.size ∧ ∀ i, w.frozen? ⟨g, i, none⟩ = false := by
  obtain ⟨g, rfl, h1, hg, _⟩ := h.form h0
  exact ⟨g, rfl, h1, hg, fun i => World.ownsRow.frozenAt h i⟩
/-- A store at place i. -/
theorem OL.set_ {g : Nat} (h : OL w e B (some ⟨g, 0, none⟩) c l) (i : Nat) (z : Int) : OL (w.setCell ⟨g, i, none⟩ (.int .i64 z)) e B (some ⟨g, 0, none⟩) c (l.set i z) ∧ w.grownBy (w.setCell ⟨g, i, none⟩ (.int .i64 z)) (some g) := by
  have := World.ownsRow.stored h i (.int .i64 z)
  refine ⟨?_, this.2⟩
  have h1 := this.1
  unfold OL
  rw [List.length_set, List.map_set]
  exact h1
end

theorem OL.of_own {w : World} {B n : Nat} {e : TypeId} {v : Value} {xs : List Value} {l : List Int} (h : w.ownsRow B e 1 v n xs) (hx : xs = l.map (Value.int .i64)) : ∃ A c, v = .slice A n c ∧ n = l.length ∧ OL w e B A c l := by
  subst hx
  have hn : n = l.length := by have := h.1; simpa using this.symm
  subst hn
  rcases h.2 with ⟨rfl, h1⟩ | ⟨g, cap, cur, rfl, h2⟩
  · have := List.eq_nil_of_length_eq_zero h1
    subst this
    exact ⟨none, 0, rfl, rfl, h⟩
  · exact ⟨_, _, rfl, rfl, h⟩
theorem OL.lit {w : World} {e : TypeId} {B : Nat} (hB : B ≤ w.heap.size) (l : List Int) (hl : l.length ≤ maxLen) : OL (w.alloc (.cells (l.map (Value.int .i64)).toArray e)) e B (some ⟨w.heap.size, 0, none⟩) l.length l := by
  have := World.ownsRow_lit (base := B) (e := e) (size := 1) w (l.map (Value.int .i64)).toArray l.length hB hl (by simp)
  unfold OL
  simpa using this

/-- What was made earlier lies in another block. -/
theorem OL.apart {w u : World} {e : TypeId} {B c d : Nat} {A A' : Option Addr} {l m : List Int} (h : OL w e B A c l) (h' : OL u e w.heap.size A' d m) : ∀ k, (Value.slice A l.length c).ownBlock = some k → (Value.slice A' m.length d).ownBlock ≠ some k := fun k hk hk' => by
  have h1 := (h.own_lt k hk).2
  have h2 := (h'.own_lt k hk').1
  omega
/-- What a call made, and what was then written into it alone. -/
theorem marked {u v x : World} {e : TypeId} {c j : Nat} {A : Option Addr} {l : List Int} (h : OL v e u.heap.size A c l) (hb : Below u.heap.size u v) (hg : (v.drewN j).grownBy x (Value.slice A l.length c).ownBlock) : Below u.heap.size u x :=
  (bl_drewN hb j).grown hg hb.size (fun k hk => (h.own_lt k hk).1)
/-- append of one number to a slice that the call made. -/
theorem wpList_append_int {P : Program} {ops : Array Oper} {rest : List Oper} {o : Oper} {a : Act} {Q : Exit → Act → World → Prop} {w : World} (hgd : o.guard = none) (s x : Operand) (t : TypeId)
    (ho : o.op = .call { callee := .builtin .append, args := #[s, x], argTypes := #[t, t] })
    (e : TypeId) (i : TypeInfo) (ht : P.underlying t = some (.slice e)) (hi : P.info? e = some i) (hz : i.zero = some (.int .i64 0)) (hsize : i.size = 1) (hby : i.bytes = 8)
    (B : Nat) (A : Option Addr) (c n : Nat) (l : List Int) (hs : a.eval s = .slice A n c) (hn : n = l.length) (hown : OL w e B A c l)
    (b : Nat) (z : Int) (hx : a.eval x = .slice (some ⟨b, 0, none⟩) 1 1) (hc : w.cell? ⟨b, 0, none⟩ = some (.int .i64 z)) (hlen : n ≤ 1000000000000) (hB : B ≤ w.heap.size)
    (h : ∀ A' c' w', OL w' e B A' c' (l ++ [z]) → Below B w w' → w.grownBy w' (Value.slice A n c).ownBlock → wpList P ops Q rest (a.put o.dst (.slice A' (n + 1) c')) w') : wpList P ops Q (o :: rest) a w := by
  subst hn
  refine wpList_append_own w hgd s x t ho B e i (.int .i64 0) 1 8 ht hi hz hsize hby rfl (by decide) _ l.length (l.map (Value.int .i64)) hs hown ⟨b, 0, none⟩ 1 1 [.int .i64 z] hx rfl ?_ ?_ (by unfold maxLen; omega) (by omega) hB ?_
  · intro j u hj
    match j, hj with
    | 0, hj => simp at hj; subst hj; simpa [Addr.add] using hc
  · intro u hu; simp at hu; subst hu; rfl
  · intro v' w' hown' hgr _
    obtain ⟨A', c', rfl, hl, hol⟩ := OL.of_own (l := l ++ [z]) hown' (by simp)
    exact h A' c' w' hol ((Below.refl _ _).grown hgr hB (fun k hk => (hown.own_lt k hk).1)) hgr

/-- The first k numbers are those of l, the rest those of m. -/
def mix (l m : List Int) (k : Nat) : List Int := l.take k ++ m.drop k
theorem mix_zero (l m : List Int) : mix l m 0 = m := by simp [mix]
theorem mix_all {l m : List Int} (h : m.length = l.length) : mix l m l.length = l := by rw [mix, List.take_length, List.drop_eq_nil_of_le (by omega), List.append_nil]
theorem mix_len {l m : List Int} (h : m.length = l.length) (k : Nat) : (mix l m k).length = l.length := by simp [mix]; omega
theorem mix_get {l m : List Int} {k : Nat} (h : m.length = l.length) (hk : k < l.length) : ng (mix l m k) k = ng m k := by
  have e : k - min k l.length = 0 := by omega
  simp [ng, List.getD, mix, List.getElem?_append, e, Nat.not_lt.2 (Nat.min_le_left k l.length)]
theorem mix_step {l m : List Int} {k : Nat} (h : m.length = l.length) (hk : k < l.length) : (mix l m k).set k (ng l k) = mix l m (k + 1) := by
  apply List.ext_getElem?
  intro j
  simp only [mix, List.getElem?_set, List.getElem?_append, List.length_append, List.length_take, List.length_drop, List.getElem?_take, List.getElem?_drop]
  by_cases hj : j = k
  · subst hj
    have e2 : j < min (j + 1) l.length := by omega
    have e3 : j < min j l.length + (m.length - j) := by omega
    simp [e2, e3, ng_get hk, show j < j + 1 from by omega]
  · by_cases hl : j < k
    · have e1 : j < min k l.length := by omega
      have e2 : j < min (k + 1) l.length := by omega
      simp [Ne.symm hj, e1, e2, hl, show j < k + 1 from by omega]
    · simp [Ne.symm hj, hl, show ¬ j < k + 1 from by omega, show min k l.length = k from by omega, show min (k + 1) l.length = k + 1 from by omega, show k + (j - k) = j from by omega, show k + 1 + (j - (k + 1)) = j from by omega]

theorem mix_put {l m : List Int} {k : Nat} {z : Int} (h : m.length = l.length) (hk : k < l.length) (hz : ng l k = z) : (mix l m k).set k z = mix l m (k + 1) := by rw [← hz]; exact mix_step h hk

theorem mix_done {l m : List Int} {n : Nat} (h : m.length = l.length) (hn : l.length = n) : mix l m n = l := by rw [← hn]; exact mix_all h

/-- n numbers from z on. -/
def upto (z : Int) (n : Nat) : List Int := (List.range n).map fun i : Nat => z + (i : Int)
theorem upto_len (z : Int) (n : Nat) : (upto z n).length = n := by simp [upto]
theorem upto_get {z : Int} {n k : Nat} (h : k < n) : ng (upto z n) k = z + (k : Int) := by simp [ng, upto, List.getD, h]
theorem results_tmp4 {fn : Func} {t u v x : Tmp} (h : fn.results = #[.tmp t, .tmp u, .tmp v, .tmp x]) (tmps : Array Value) (P : Program) (w : World) :
    (results fn tmps).run P w = .ok (.tuple #[tmps.getD t undef, tmps.getD u undef, tmps.getD v undef, tmps.getD x undef]) w := by simp [results, h]
theorem ng_snoc {l : List Int} {z : Int} {P : Int → Prop} (hz : P z) (h : ∀ j, j < l.length → P (ng l j)) : ∀ j, j < (l ++ [z]).length → P (ng (l ++ [z]) j) := fun j hj => by
  rcases (by simp at hj; omega : j < l.length ∨ j = l.length) with e | e
  · have := h j e
    rwa [ng_lt (by simp; omega), List.getElem_append_left e, ← ng_lt e]
  · subst e
    rw [ng_lt (by simp)]
    simpa using hz
theorem ng_set {l : List Int} {z : Int} {i j : Nat} (hj : j < l.length) : ng (l.set i z) j = if i = j then z else ng l j := by
  rw [ng_lt (by simpa using hj), List.getElem_set, ng_lt hj]
theorem take_next {l : List Int} {k : Nat} {z : Int} (h : k < l.length) (hz : ng l k = z) : l.take k ++ [z] = l.take (k + 1) := by
  rw [List.take_add_one, ng_get h, hz]; rfl
theorem take_len {l : List Int} {k : Nat} (h : k ≤ l.length) : (l.take k).length = k := by simp; omega
end Go.Proofs.Ytafddofajfcffaa

/- What the laws' helpers on slices of integers answer. -/
namespace Go.Proofs.Ytafddofajfcffaa
open Go.ChangeShapes Go.WideShapes Go.ChangeAt Go.RowKit
set_option linter.unusedVariables false
set_option linter.unusedSimpArgs false

theorem IL.of_row {w : World} {a : Option Addr} {n c : Nat} {zs : List Int} (h : IsRow .i64 w a n c zs) : IL w a n (zs.take n) := by
  rcases h with ⟨rfl, rfl, rfl, rfl⟩ | ⟨x, rfl, h1, h2, h3, h4, h5⟩
  · exact IL.nil _ _
  · refine ⟨by simp; omega, fun h0 => ?_⟩
    obtain ⟨b, o, spot⟩ := x
    have e0 := h4 0 (by omega)
    have hspot : spot = none := by simpa [Addr.add] using World.cell?_spot e0
    subst hspot
    refine ⟨b, o, rfl, World.block_lt_of_cell? w _ (by simpa [Addr.add] using e0), fun i hi => ?_⟩
    have e1 := h4 i (by omega)
    have e2 : ng (zs.take n) i = zs.getD i 0 := by simp [ng, List.getD, List.getElem?_take, hi]
    rw [e2, ← e1]
    congr 1
    by_cases h0 : i = 0 <;> simp [Addr.add, h0]

theorem eqIntS_l (w : World) (A B : Option Addr) (n m c d : Nat) (l k : List Int) (ha : IL w A n l) (hb : IL w B m k) (hn : n ≤ 4611686018427387904) (hm : m ≤ 4611686018427387904) :
    Calls Try.prog 27 #[.slice A n c, .slice B m d] w fun e w' => e = .returned (.bool (decide (l = k))) ∧ ∃ j, w.drewN j = w' := by
  by_cases hnm : n = m
  · subst hnm
    have hl : l.length = k.length := by rw [← ha.1, ← hb.1]
    have HL := hide hl
    clear hl
    go_enter Try.func27, Try.ntmps27
    go_wp2
    go_loopw [5] (fun i u => ∃ p j : Nat, p ≤ n ∧ i = .int .i64 p ∧ Agr l k p ∧ u = w.drewN j) (fun i _ => n - (intOf i).toNat)
    case atStart => exact ⟨0, 0, by omega, rfl, Agr.zero _ _, rfl⟩
    case round =>
      obtain ⟨p, j, hp, rfl, hag, rfl⟩ := hrel
      have Hag := hide hag
      clear hag
      by_cases hlt : p < n
      · obtain ⟨b, o, rfl, hbl, hc⟩ := ha.at_ hlt
        obtain ⟨b', o', rfl, hbl', hc'⟩ := hb.at_ hlt
        by_cases he : ng l p = ng k p
        · have q : (ng l p != ng k p) = false := by simp [he]
          have M := hide (Hag.out.step he)
          clear he
          go_wp2
          go_quiet (fail)
          go_wp2
          go_roundw
          case rel => exact ⟨p + 1, _, by omega, by go_num, M.out, rfl⟩
          case measure => simp [intOf]; omega
        · have q : (ng l p != ng k p) = true := by simp [he]
          have M : Hid (decide (l = k) = false) := hide (by simp; intro h; subst h; exact he rfl)
          clear he
          go_wp2
          go_quiet (fail)
          go_wp2
          go_ret
          exact ⟨bool_ret M.out.symm, j + nq, by rw [World.drewN_drewN]⟩
      · have hpe : n = l.length := ha.1
        have M : Hid (decide (l = k) = true) := hide (by
          have := Hag.out
          rw [show p = l.length from by omega] at this
          simp; exact Agr.all HL.out this)
        go_wp2
        go_ret
        exact ⟨bool_ret M.out.symm, _, rfl⟩
  · have M : Hid (decide (l = k) = false) := hide (by simp; intro h; subst h; exact hnm (ha.1.trans hb.1.symm))
    go_enter Try.func27, Try.ntmps27
    go_wp2
    go_ret
    exact ⟨bool_ret M.out.symm, 0, rfl⟩
theorem eqInts_l (w : World) (A B : Option Addr) (n m c d : Nat) (l k : List Int) (ha : IL w A n l) (hb : IL w B m k) (hn : n ≤ 4611686018427387904) (hm : m ≤ 4611686018427387904) :
    Calls Try.prog 59 #[.slice A n c, .slice B m d] w fun e w' => e = .returned (.bool (decide (l = k))) ∧ ∃ j, w.drewN j = w' := by
  by_cases hnm : n = m
  · subst hnm
    have hl : l.length = k.length := by rw [← ha.1, ← hb.1]
    have HL := hide hl
    clear hl
    go_enter Try.func59, Try.ntmps59
    go_wp2
    go_loopw [5] (fun i u => ∃ p j : Nat, p ≤ n ∧ i = .int .i64 p ∧ Agr l k p ∧ u = w.drewN j) (fun i _ => n - (intOf i).toNat)
    case atStart => exact ⟨0, 0, by omega, rfl, Agr.zero _ _, rfl⟩
    case round =>
      obtain ⟨p, j, hp, rfl, hag, rfl⟩ := hrel
      have Hag := hide hag
      clear hag
      by_cases hlt : p < n
      · obtain ⟨b, o, rfl, hbl, hc⟩ := ha.at_ hlt
        obtain ⟨b', o', rfl, hbl', hc'⟩ := hb.at_ hlt
        by_cases he : ng l p = ng k p
        · have q : (ng l p != ng k p) = false := by simp [he]
          have M := hide (Hag.out.step he)
          clear he
          go_wp2
          go_quiet (fail)
          go_wp2
          go_roundw
          case rel => exact ⟨p + 1, _, by omega, by go_num, M.out, rfl⟩
          case measure => simp [intOf]; omega
        · have q : (ng l p != ng k p) = true := by simp [he]
          have M : Hid (decide (l = k) = false) := hide (by simp; intro h; subst h; exact he rfl)
          clear he
          go_wp2
          go_quiet (fail)
          go_wp2
          go_ret
          exact ⟨bool_ret M.out.symm, j + nq, by rw [World.drewN_drewN]⟩
      · have hpe : n = l.length := ha.1
        have M : Hid (decide (l = k) = true) := hide (by
          have := Hag.out
          rw [show p = l.length from by omega] at this
          simp; exact Agr.all HL.out this)
        go_wp2
        go_ret
        exact ⟨bool_ret M.out.symm, _, rfl⟩
  · have M : Hid (decide (l = k) = false) := hide (by simp; intro h; subst h; exact hnm (ha.1.trans hb.1.symm))
    go_enter Try.func59, Try.ntmps59
    go_wp2
    go_ret
    exact ⟨bool_ret M.out.symm, 0, rfl⟩

/-- What markIntS leaves: the numbers from z on, in the same place. -/
theorem markIntS_l (w : World) (e : TypeId) (B : Nat) (A : Option Addr) (c : Nat) (l : List Int) (z : Int) (ha : OL w e B A c l) (hn : l.length ≤ 2000000) (z0 : 0 ≤ z) (z1 : z ≤ 1000000000) :
    Calls Try.prog 30 #[.slice A l.length c, .int .i64 z] w fun e' w' => e' = .returned (.int .i64 (z + l.length)) ∧ OL w' e B A c (upto z l.length) ∧ w.grownBy w' (Value.slice A l.length c).ownBlock := by
  rcases Nat.eq_zero_or_pos l.length with h0 | h0
  · have E := hide (List.eq_nil_of_length_eq_zero h0)
    have H : Hid (OL w e B A c (upto z l.length)) := hide (by rw [E.out] at ha ⊢; exact ha)
    rw [h0] at H ⊢
    go_enter Try.func30, Try.ntmps30
    go_wp2
    go_loop [1, 5] (fun k i => k = .int .i64 z ∧ i = .int .i64 0) (fun _ _ => 0)
    case atStart => exact ⟨rfl, rfl⟩
    case round =>
      obtain ⟨rfl, rfl⟩ := hrel
      go_wp2
      go_ret
      exact ⟨int_ret (by simp), H.out, World.grownBy.refl _ _⟩
  · obtain ⟨g, rfl, hB, hg, hfz⟩ := ha.frozen h0
    have hmx := ha.len
    have hU : (upto z l.length).length = l.length := upto_len z l.length
    have HU := hide hU
    have H0 : Hid (OL w e B (some ⟨g, 0, none⟩) c (mix (upto z l.length) l 0)) := hide (by rw [mix_zero]; exact ha)
    clear ha hfz hU
    go_enter Try.func30, Try.ntmps30
    go_wp2
    go_loopw [1, 5] (fun k i u => ∃ p : Nat, p ≤ l.length ∧ k = .int .i64 (z + p) ∧ i = .int .i64 p ∧ OL u e B (some ⟨g, 0, none⟩) c (mix (upto z l.length) l p) ∧ w.grownBy u (some g)) (fun _ i _ => l.length - (intOf i).toNat)
    case atStart => exact ⟨0, by omega, by go_num, rfl, H0.out, World.grownBy.refl _ _⟩
    case round =>
      obtain ⟨p, hp, rfl, rfl, hol, hgr⟩ := hrel
      have hml : (mix (upto z l.length) l p).length = l.length := by rw [mix_len (by rw [HU.out]), HU.out]
      by_cases hlt : p < l.length
      · have M := hide (hol.set_ p (z + p))
        have hc := hol.reads.at_ (i := p) (by omega)
        obtain ⟨b, o, he, _, hc⟩ := hc
        obtain ⟨g', he', _, _, hfz⟩ := hol.frozen (by omega)
        injection he with he; injection he' with he'
        cases he; cases he'
        have fz := hfz p
        rw [Nat.zero_add] at hc
        have HML := hide hml
        clear hml hfz hol
        go_wp2
        go_roundw
        case rel =>
          refine ⟨p + 1, by omega, by go_num, by go_num, ?_, on_set' hgr (.inl rfl) _⟩
          have := M.out.1
          have e1 : (mix (upto z l.length) l p).set p (z + p) = mix (upto z l.length) l (p + 1) := by rw [← upto_get hlt, mix_step (by rw [HU.out]) (by rw [HU.out]; exact hlt)]
          rwa [e1] at this
        case measure => simp [intOf]; omega
      · have hpe : p = l.length := by omega
        have M : Hid (OL wr e B (some ⟨g, 0, none⟩) c (upto z l.length)) := hide (by
          rw [hpe] at hol
          rwa [show mix (upto z l.length) l l.length = upto z l.length from by have := mix_all (l := upto z l.length) (m := l) (by rw [HU.out]); rwa [HU.out] at this] at hol)
        clear hml hol
        go_wp2
        go_ret
        exact ⟨int_ret (by omega), M.out, hgr⟩

theorem heldIntS_l (w : World) (A : Option Addr) (c n : Nat) (z : Int) (ha : IL w A n (upto z n)) (hn : n ≤ 2000000) (z0 : 0 ≤ z) (z1 : z ≤ 1000000) :
    Calls Try.prog 31 #[.slice A n c, .int .i64 z] w fun e w' => e = .returned (.int .i64 (z + n)) ∧ w = w' := by
  go_enter Try.func31, Try.ntmps31
  go_wp2
  go_loop [1, 5] (fun k i => ∃ p : Nat, p ≤ n ∧ k = .int .i64 (z + p) ∧ i = .int .i64 p) (fun _ i => n - (intOf i).toNat)
  case atStart => exact ⟨0, by omega, by go_num, rfl⟩
  case round =>
    obtain ⟨p, hp, rfl, rfl⟩ := hrel
    by_cases hlt : p < n
    · obtain ⟨b, o, rfl, _, hc⟩ := ha.at_ hlt
      rw [upto_get hlt] at hc
      go_wp2
      go_round
      case rel => exact ⟨p + 1, by omega, by go_num, by go_num⟩
      case measure => simp [intOf]; omega
    · go_wp2
      go_ret
      exact ⟨int_ret (by omega), rfl⟩

theorem int_info : (Try.prog.info? 3).map (fun i => (i.zero, i.size, i.bytes)) = some (some (.int .i64 0), 1, 8) := by kernel_rfl
theorem toIntS_l (w : World) (A : Option Addr) (n c : Nat) (l : List Int) (ha : IL w A n l) (hn : n ≤ 1048576) :
    Calls Try.prog 33 #[.slice A n c] w fun e w' => ∃ A' c', e = .returned (.slice A' l.length c') ∧ OL w' 3 w.heap.size A' c' l ∧ Below w.heap.size w w' := by
  obtain ⟨i0, hi0, hz0, hz1, hz2⟩ := info_parts int_info
  obtain rfl : n = l.length := ha.1
  have hR : (List.replicate l.length (0 : Int)).length = l.length := List.length_replicate
  have HR := hide hR
  clear hR
  go_enter Try.func33, Try.ntmps33
  go_wp2_with (refine wpList_make_full _ rfl _ _ _ rfl w.heap.size 3 i0 _ 1 Try.underlying24 hi0 hz0 hz1 .i64 .i64 _ _ l.length rfl rfl rfl rfl (by rw [hz2]; omega) (by unfold maxLen; omega) (Nat.le_refl _) ?_; intro w1 hown hgr)
  have H0 : Hid (OL w1 3 w.heap.size (some ⟨w.heap.size, 0, none⟩) l.length (mix l (List.replicate l.length 0) 0)) := hide (by
    rw [mix_zero]; unfold OL
    have e1 : (madeCells (Value.int .i64 0).cells l.length).toList = List.replicate l.length (.int .i64 0) := toList_madeCells_one _ _
    simp only [Nat.mul_one, e1] at hown
    simpa using hown)
  have hb1 := below_new hgr
  have hz0 : w.heap.size ≤ w1.heap.size := hb1.size
  have HI := hide ha
  clear hown hgr ha
  go_wp2
  go_loopw [4] (fun i u => ∃ p : Nat, p ≤ l.length ∧ i = .int .i64 p ∧ OL u 3 w.heap.size (some ⟨w.heap.size, 0, none⟩) l.length (mix l (List.replicate l.length 0) p) ∧ Below w.heap.size w u) (fun i _ => l.length - (intOf i).toNat)
  case atStart => exact ⟨0, by omega, rfl, H0.out, hb1⟩
  case round =>
    obtain ⟨p, hp, rfl, hol, hbl⟩ := hrel
    have hml : (mix l (List.replicate l.length 0) p).length = l.length := mix_len HR.out p
    by_cases hlt : p < l.length
    · have M := hide (hol.set_ p (ng l p)).1
      have hc := hol.reads.at_ (i := p) (by omega)
      obtain ⟨b, o, he, hg, hc⟩ := hc
      obtain ⟨g', he', _, _, hfz⟩ := hol.frozen (by omega)
      injection he with he; injection he' with he'
      cases he; cases he'
      have fz := hfz p
      obtain ⟨b, o, rfl, hb0, hci⟩ := HI.out.at_ hlt
      have hci := keep_cell hbl hci
      rw [Nat.zero_add] at hc
      clear hml hfz hol
      go_wp2
      go_roundw
      case rel =>
        refine ⟨p + 1, by omega, by go_num, ?_, bl_set hbl (Nat.le_refl _) _⟩
        have := M.out
        rwa [mix_step HR.out hlt] at this
      case measure => simp [intOf]; omega
    · have hpe : p = l.length := by omega
      have M : Hid (OL wr 3 w.heap.size (some ⟨w.heap.size, 0, none⟩) l.length l) := hide (by
        rwa [hpe, mix_all HR.out] at hol)
      clear hml hol
      go_wp2
      go_ret
      exact ⟨_, _, rfl, M.out, hbl⟩

theorem isIn_l (w : World) (A : Option Addr) (n c : Nat) (l : List Int) (z : Int) (ha : IL w A n l) (hn : n ≤ 4611686018427387904) :
    Calls Try.prog 54 #[.slice A n c, .int .i64 z] w fun e w' => e = .returned (.bool (decide (z ∈ l))) ∧ w = w' := by
  go_enter Try.func54, Try.ntmps54
  go_wp2
  go_loop [5] (fun i => ∃ p : Nat, p ≤ n ∧ i = .int .i64 p ∧ ∀ j, j < p → ng l j ≠ z) (fun i => n - (intOf i).toNat)
  case atStart => exact ⟨0, by omega, rfl, fun j hj => by omega⟩
  case round =>
    obtain ⟨p, hp, rfl, hno⟩ := hrel
    have hl : n = l.length := ha.1
    have HL := hide hl
    clear hl
    by_cases hlt : p < n
    · obtain ⟨b, o, rfl, _, hc⟩ := ha.at_ hlt
      by_cases he : ng l p = z
      · have q : (ng l p == z) = true := by simp [he]
        have M : Hid (decide (z ∈ l) = true) := hide (by rw [← he]; simp; exact ng_mem (by rw [← HL.out]; exact hlt))
        clear he hno
        go_wp2
        go_ret
        exact ⟨bool_ret M.out.symm, rfl⟩
      · have q : (ng l p == z) = false := by simp [he]
        have M : Hid (∀ j, j < p + 1 → ng l j ≠ z) := hide (fun j hj => by
          rcases (by omega : j < p ∨ j = p) with e | e
          · exact hno j e
          · rw [e]; exact he)
        clear he hno
        go_wp2
        go_round
        case rel => exact ⟨p + 1, by omega, by go_num, M.out⟩
        case measure => simp [intOf]; omega
    · have M : Hid (decide (z ∈ l) = false) := hide (by
        simp
        intro hz
        obtain ⟨j, hj, e⟩ := List.getElem_of_mem hz
        exact hno j (by have := HL.out; omega) (by rw [ng_lt hj, e]))
      clear hno
      go_wp2
      go_ret
      exact ⟨bool_ret M.out.symm, rfl⟩

theorem last_l (w : World) (A : Option Addr) (n c : Nat) (l : List Int) (ha : IL w A n l) (hn : n ≤ 4611686018427387904) :
    Calls Try.prog 64 #[.slice A n c] w fun e w' => e = .returned (.int .i64 (if l = [] then -1 else ng l (l.length - 1))) ∧ w = w' := by
  obtain rfl : n = l.length := ha.1
  rcases Nat.eq_zero_or_pos l.length with h0 | h0
  · have E : Hid ((if l = [] then -1 else ng l (l.length - 1)) = -1) := hide (by rw [if_pos (List.eq_nil_of_length_eq_zero h0)])
    rw [E.out, h0]
    go_enter Try.func64, Try.ntmps64
    go_wp2
    go_ret
    exact ⟨rfl, rfl⟩
  · have E : Hid ((if l = [] then -1 else ng l (l.length - 1)) = ng l (l.length - 1)) := hide (by rw [if_neg (by intro h; rw [h] at h0; simp at h0)])
    rw [E.out]
    obtain ⟨b, o, rfl, _, hc⟩ := ha.at_ (i := l.length - 1) (by omega)
    obtain ⟨m, hm⟩ : ∃ m, m = l.length - 1 := ⟨_, rfl⟩
    rw [← hm] at hc ⊢
    have h1 : l.length = m + 1 := by omega
    rw [h1]
    have hm2 : m ≤ 4611686018427387904 := by omega
    clear hm h1 h0 E ha
    go_enter Try.func64, Try.ntmps64
    go_wp2
    go_ret
    exact ⟨rfl, rfl⟩
end Go.Proofs.Ytafddofajfcffaa

/- Types that hold integers, booleans and texts alone: what a slice of them reads as. They speak of no program. -/
namespace Go.Proofs.Ytafddofajfcffaa
open Go.ChangeShapes Go.WideShapes Go.ChangeAt Go.RowKit
set_option linter.unusedVariables false

/-- What one cell may hold. -/
inductive CK where
  | int (k : IntKind)
  | bool
  | str
def okCell : CK → Value → Prop
  | .int k, v => ∃ n, v = .int k n ∧ (Lit.int k n).wf = true
  | .bool, v => ∃ b, v = .bool b
  | .str, v => ∃ s : ByteArray, v = .string s ∧ s.size ≤ maxLen
def okCells : List CK → List Value → Prop
  | [], [] => True
  | k :: ks, v :: vs => okCell k v ∧ okCells ks vs
  | _, _ => False
theorem okCells.append {a b : List CK} {x y : List Value} (h : okCells a x) (k : okCells b y) : okCells (a ++ b) (x ++ y) := by
  induction a generalizing x with
  | nil => cases x with
    | nil => exact k
    | cons v x => cases h
  | cons c a ih => cases x with
    | nil => cases h
    | cons v x => exact ⟨h.1, ih h.2⟩
theorem okCells.length {a : List CK} {x : List Value} (h : okCells a x) : x.length = a.length := by
  induction a generalizing x with
  | nil => cases x with
    | nil => rfl
    | cons v x => cases h
  | cons c a ih => cases x with
    | nil => cases h
    | cons v x => simp [ih h.2]

theorem okCells.cons {k : CK} {ks : List CK} {x : List Value} (h : okCells (k :: ks) x) : ∃ v vs, x = v :: vs ∧ okCell k v ∧ okCells ks vs := by
  cases x with
  | nil => cases h
  | cons v vs => exact ⟨v, vs, rfl, h.1, h.2⟩
theorem okCells.done {x : List Value} (h : okCells [] x) : x = [] := by
  cases x with
  | nil => rfl
  | cons v vs => cases h

def flatFs (P : Program) (g : TypeId → Option (List CK)) : List Field → Nat → Option (List CK)
  | [], _ => some []
  | fd :: fs, off => match g fd.type with
    | none => none
    | some ks => if fd.offset = off ∧ P.cellsOf fd.type = ks.length then (flatFs P g fs (off + ks.length)).map (ks ++ ·) else none
/-- The kinds of a type's cells, if it holds nothing else. -/
def flat (P : Program) : Nat → TypeId → Option (List CK)
  | 0, _ => none
  | f + 1, t => match P.underlying t with
    | some .bool => some [.bool]
    | some (.int k) => some [.int k]
    | some .string => some [.str]
    | some (.struct fs) => match flatFs P (flat P f) fs.toList 0 with
      | some ks => if P.cellsOf t = ks.length then some ks else none
      | none => none
    | _ => none

section
variable {H : Type} {enc : TypeId × Value → H} {P : Program} {w : World} {base : Nat} {sp : Nat → Bool} {held : Bool}
theorem flatFs_ok {g : TypeId → Option (List CK)} {n : Nat} {cs : List Value} (ih : ∀ t ks cs x, g t = some ks → DataW.trod enc P w base sp held n t cs = some x → okCells ks cs) {l : List Field} {off : Nat} {ks : List CK} (h : flatFs P g l off = some ks)
    (hl : ∀ fd ∈ l, ∃ y, DataW.trod enc P w base sp held n fd.type ((cs.drop fd.offset).take (P.cellsOf fd.type)) = some y) : okCells ks ((cs.drop off).take ks.length) := by
  induction l generalizing off ks with
  | nil => simp [flatFs] at h; subst h; simp [okCells]
  | cons fd fs ihl =>
    simp only [flatFs] at h
    cases hg : g fd.type with
    | none => simp [hg] at h
    | some k1 =>
      simp only [hg] at h
      split at h
      · rename_i hc
        obtain ⟨ho, hcl⟩ := hc
        cases h2 : flatFs P g fs (off + k1.length) with
        | none => simp [h2] at h
        | some k2 =>
          rw [h2] at h
          simp at h
          subst h
          obtain ⟨y, hy⟩ := hl fd (List.mem_cons_self ..)
          have a := ih _ _ _ _ hg hy
          rw [ho, hcl] at a
          have b := ihl h2 (fun fd' hfd => hl fd' (List.mem_cons_of_mem _ hfd))
          have := a.append b
          rw [List.length_append, List.take_add, List.drop_drop]
          exact this
      · cases h
theorem flat_ok {f n : Nat} {t : TypeId} {ks : List CK} {cs : List Value} {x : DataW H × List MemPlace} (h : flat P f t = some ks) (hx : DataW.trod enc P w base sp held n t cs = some x) : okCells ks cs := by
  induction f generalizing t ks cs x n with
  | zero => cases h
  | succ f ih =>
    unfold flat at h
    split at h
    · rename_i hu
      injection h with h; subst h
      obtain ⟨b, rfl, _⟩ := DataW.trod_bool hu hx
      exact ⟨⟨b, rfl⟩, trivial⟩
    · rename_i hu
      injection h with h; subst h
      obtain ⟨b, rfl, _, hw⟩ := DataW.trod_int hu hx
      exact ⟨⟨b, rfl, hw⟩, trivial⟩
    · rename_i hu
      injection h with h; subst h
      obtain ⟨b, rfl, _, hw⟩ := DataW.trod_string hu hx
      exact ⟨⟨b, rfl, hw⟩, trivial⟩
    · rename_i fs hu
      obtain ⟨xs, m, rfl, _, hlen, hxl, hall⟩ := DataW.trod_struct hu hx
      cases hf : flatFs P (flat P f) fs.toList 0 with
      | none => simp [hf] at h
      | some k1 =>
        simp only [hf] at h
        split at h
        · rename_i hc
          injection h with h; subst h
          have := flatFs_ok (n := m) (cs := cs) (fun t ks cs x h1 h2 => ih h1 h2) hf (fun fd hfd => by
            obtain ⟨i, hi, e⟩ := List.getElem_of_mem hfd
            have hi' : i < fs.size := by simpa using hi
            have e2 : fs[i]? = some fd := by rw [Array.getElem?_eq_getElem hi', ← e]; simp
            have e3 := hall i fd e2
            rw [List.getElem?_eq_getElem (by omega)] at e3
            exact ⟨_, e3⟩)
          rw [List.drop_zero, ← hc, ← hlen, List.take_length] at this
          exact this
        · cases h
    · cases h

/-- A slice of such a type that came in: each element's cells. -/
theorem flat_slice {t e : TypeId} {f : Nat} {ks : List CK} {a : Option Addr} {n c : Nat} {d : DataW H} {p : List MemPlace} (ht : P.underlying t = some (.slice e)) (hk : flat P f e = some ks) (hm : P.cellsOf e = ks.length) (h0 : 0 < ks.length)
    (h : DataW.Trod enc P w base sp held t (.slice a n c) d p) : n ≤ maxLen ∧ (0 < n → ∃ b o, a = some ⟨b, o, none⟩ ∧ b < w.heap.size ∧ ∀ i, i < n → ∃ cs, okCells ks cs ∧ ∀ j, j < ks.length → w.cell? ⟨b, o + i * ks.length + j, none⟩ = cs[j]?) := by
  obtain ⟨fuel, hf⟩ := h
  simp only [Value.cells, List.toList_toArray] at hf
  rcases Go.Deep.open_slice ht hf with ⟨he, _⟩ | ⟨ad, len, cap, m, n', D, Pl, he, hb, hl, hcm, hmm, _, hall⟩
  · simp at he
    obtain ⟨_, rfl, _⟩ := he
    exact ⟨Nat.zero_le _, fun h => by omega⟩
  · simp at he
    obtain ⟨rfl, rfl, rfl⟩ := he
    have hm1 : n ≤ m := by rw [hmm]; split <;> omega
    refine ⟨by omega, fun hn => ?_⟩
    have hcell : ∀ i, i < n → ∃ cs, okCells ks cs ∧ ∀ j, j < ks.length → w.cell? (ad.add (i * ks.length + j)) = cs[j]? := by
      intro i hi
      obtain ⟨cs, h1, h2⟩ := hall i (by omega)
      have ok := flat_ok hk h2
      refine ⟨cs, ok, fun j hj => ?_⟩
      rw [hm] at h1
      obtain ⟨_, hl2, h3⟩ := World.cells?_some h1
      rw [← Go.Deep.add_add]
      exact h3 j hj
    obtain ⟨b, o, spot⟩ := ad
    obtain ⟨cs0, ok0, hc0⟩ := hcell 0 hn
    have e0 := hc0 0 h0
    rw [List.getElem?_eq_getElem (by rw [ok0.length]; exact h0)] at e0
    have hspot : spot = none := by simpa [Addr.add] using World.cell?_spot e0
    subst hspot
    refine ⟨b, o, rfl, World.block_lt_of_cell? w _ (by simpa [Addr.add] using e0), fun i hi => ?_⟩
    obtain ⟨cs, ok, hc⟩ := hcell i hi
    refine ⟨cs, ok, fun j hj => ?_⟩
    rw [← hc j hj]
    congr 1
    generalize i * ks.length = q
    by_cases h0 : q + j = 0
    · obtain rfl : q = 0 := by omega
      obtain rfl : j = 0 := by omega
      simp [Addr.add]
    · unfold Addr.add
      rw [if_neg h0]
      simp only [Nat.add_assoc]
end

/-- A record: its cells. -/
class Rec (α : Type) where
  size : Nat
  pos : 0 < size
  cells : α → List Value
  len : ∀ a, (cells a).length = size
  dflt : α
/-- The k-th record. -/
def tg {α : Type} [Rec α] (L : List α) (k : Nat) : α := L.getD k Rec.dflt
/-- A slice that reads as a list of records. -/
def TL {α : Type} [Rec α] (w : World) (A : Option Addr) (n : Nat) (L : List α) : Prop :=
  n = L.length ∧ (0 < n → ∃ b o, A = some ⟨b, o, none⟩ ∧ b < w.heap.size ∧ ∀ i, i < n → ∀ j, j < Rec.size α → w.cell? ⟨b, o + i * Rec.size α + j, none⟩ = (Rec.cells (tg L i))[j]?)
/-- A slice of records that the call made. -/
def TO {α : Type} [Rec α] (w : World) (e : TypeId) (B : Nat) (A : Option Addr) (c : Nat) (L : List α) : Prop := w.ownsRow B e (Rec.size α) (.slice A L.length c) L.length (L.flatMap Rec.cells)

section
variable {α : Type} [Rec α]
theorem tg_lt {L : List α} {k : Nat} (h : k < L.length) : tg L k = L[k] := by simp [tg, List.getD, List.getElem?_eq_getElem h]
theorem tg_get {L : List α} {k : Nat} (h : k < L.length) : L[k]? = some (tg L k) := by rw [tg_lt h, List.getElem?_eq_getElem h]
theorem tg_mem {L : List α} {k : Nat} (h : k < L.length) : tg L k ∈ L := by rw [tg_lt h]; exact List.getElem_mem h
theorem flat_len (L : List α) : (L.flatMap Rec.cells).length = L.length * Rec.size α := by
  induction L with
  | nil => simp
  | cons a L ih => simp [ih, Rec.len, Nat.add_mul]; omega
theorem flat_get (L : List α) {i j : Nat} (hi : i < L.length) (hj : j < Rec.size α) : (L.flatMap Rec.cells)[i * Rec.size α + j]? = (Rec.cells (tg L i))[j]? := by
  induction L generalizing i with
  | nil => simp at hi
  | cons a L ih =>
    have hl := Rec.len a
    cases i with
    | zero => simp [tg, List.getElem?_append_left (show j < (Rec.cells a).length by omega)]
    | succ i =>
      rw [List.flatMap_cons, List.getElem?_append_right (by rw [hl, Nat.add_mul]; omega), hl, show (i + 1) * Rec.size α + j - Rec.size α = i * Rec.size α + j from by rw [Nat.add_mul]; omega]
      rw [ih (by simpa using hi)]
      rfl
/-- The first k records, then cells that are not yet written. -/
theorem TL.at_ {w : World} {A : Option Addr} {n : Nat} {L : List α} (h : TL w A n L) {i : Nat} (hi : i < n) : ∃ b o, A = some ⟨b, o, none⟩ ∧ b < w.heap.size ∧ ∀ j, j < Rec.size α → w.cell? ⟨b, o + i * Rec.size α + j, none⟩ = (Rec.cells (tg L i))[j]? := by
  obtain ⟨b, o, e, hb, hc⟩ := h.2 (by omega)
  exact ⟨b, o, e, hb, hc i hi⟩
theorem TL.nil (w : World) (A : Option Addr) : TL w A 0 ([] : List α) := ⟨rfl, fun h => by omega⟩
theorem TL.below {w w' : World} {A : Option Addr} {n : Nat} {L : List α} (h : TL w A n L) (hb : Below w.heap.size w w') : TL w' A n L :=
  ⟨h.1, fun h0 => by
    obtain ⟨b, o, e, hl, hc⟩ := h.2 h0
    exact ⟨b, o, e, Nat.lt_of_lt_of_le hl hb.size, fun i hi j hj => ((hb.cell (p := ⟨b, o + i * Rec.size α + j, none⟩) hl)).trans (hc i hi j hj)⟩⟩
theorem TL.alloc {w : World} {A : Option Addr} {n : Nat} {L : List α} (h : TL w A n L) (o : Obj) : TL (w.alloc o) A n L := h.below (bl_alloc (bl_refl _) _)
theorem TL.drewN {w : World} {A : Option Addr} {n : Nat} {L : List α} (h : TL w A n L) (k : Nat) : TL (w.drewN k) A n L := h
theorem TL.drew {w : World} {A : Option Addr} {n : Nat} {L : List α} (h : TL w A n L) : TL w.drew A n L := h

variable {w w' : World} {A : Option Addr} {c B B' : Nat} {e : TypeId} {L : List α}
theorem TO.drewN (h : TO w e B A c L) (k : Nat) : TO (w.drewN k) e B A c L := h
theorem TO.drew (h : TO w e B A c L) : TO w.drew e B A c L := h
theorem own_more {size n : Nat} {v : Value} {xs : List Value} (h : w.ownsRow B e size v n xs) (hB : B' ≤ B) : w.ownsRow B' e size v n xs := by
  refine ⟨h.1, ?_⟩
  rcases h.2 with h0 | ⟨g, cap, cur, h1, h2, h3⟩
  · exact .inl h0
  · exact .inr ⟨g, cap, cur, h1, by omega, h3⟩
theorem own_below {size n : Nat} {v : Value} {xs : List Value} (h : w.ownsRow B e size v n xs) (hb : Below w.heap.size w w') : w'.ownsRow B e size v n xs := by
  refine ⟨h.1, ?_⟩
  rcases h.2 with h0 | ⟨g, cap, cur, h1, h2, h3, h4⟩
  · exact .inl h0
  · refine .inr ⟨g, cap, cur, h1, h2, ?_, h4⟩
    rw [hb.block g (Array.getElem?_eq_some_iff.1 h3).1]
    exact h3
theorem TO.more (h : TO w e B A c L) (hB : B' ≤ B) : TO w e B' A c L := own_more h hB
theorem TO.below (h : TO w e B A c L) (hb : Below w.heap.size w w') : TO w' e B A c L := own_below h hb
theorem TO.alloc (h : TO w e B A c L) (o : Obj) : TO (w.alloc o) e B A c L := h.below (bl_alloc (bl_refl _) _)
theorem TO.own_lt (h : TO w e B A c L) : ∀ k, (Value.slice A L.length c).ownBlock = some k → B ≤ k ∧ k < w.heap.size := fun k hk => World.ownsRow.lt h k hk
theorem TO.kept {row : Option Nat} (h : TO w e B A c L) (hg : w.grownBy w' row) (hne : ∀ k, (Value.slice A L.length c).ownBlock = some k → row ≠ some k) : TO w' e B A c L := by
  refine World.ownsRow.kept h hg ?_
  cases hv : (Value.slice A L.length c).ownBlock with
  | none => exact .inl rfl
  | some k => exact .inr (fun e => hne k hv e.symm)
theorem TO.nil (w : World) (e : TypeId) (B : Nat) : TO w e B none 0 ([] : List α) := World.ownsRow_nil _ _ _ _
theorem own_form {size n : Nat} {xs : List Value} (h : w.ownsRow B e size (.slice A n c) n xs) (h0 : 0 < n) : ∃ g, A = some ⟨g, 0, none⟩ ∧ B ≤ g ∧ g < w.heap.size ∧ n ≤ c ∧ c ≤ maxLen := by
  rcases h.2 with ⟨_, h1⟩ | ⟨g, cap, cur, h1, h2, h3, h4, h5, _⟩
  · omega
  · injection h1 with h1 _ h6
    subst h6
    exact ⟨g, h1, h2, (Array.getElem?_eq_some_iff.1 h3).1, h4, h5⟩
theorem TO.form (h : TO w e B A c L) (h0 : 0 < L.length) : ∃ g, A = some ⟨g, 0, none⟩ ∧ B ≤ g ∧ g < w.heap.size ∧ L.length ≤ c ∧ c ≤ maxLen := own_form h h0
theorem TO.len (h : TO w e B A c L) : L.length ≤ maxLen := by
  rcases Nat.eq_zero_or_pos L.length with h0 | h0
  · omega
  · obtain ⟨_, _, _, _, h1, h2⟩ := h.form h0
    omega
theorem TO.reads (h : TO w e B A c L) : TL w A L.length L := by
  refine ⟨rfl, fun h0 => ?_⟩
  obtain ⟨g, rfl, _, hg, _⟩ := h.form h0
  refine ⟨g, 0, rfl, hg, fun i hi j hj => ?_⟩
  have hlt : i * Rec.size α + j < L.length * Rec.size α := by
    have : (i + 1) * Rec.size α ≤ L.length * Rec.size α := Nat.mul_le_mul_right _ hi
    rw [Nat.add_mul] at this
    omega
  have := World.ownsRow.cellAt h (i * Rec.size α + j) hlt
  rw [Nat.zero_add, this, flat_get L hi hj]
theorem TO.frozen (h : TO w e B A c L) (h0 : 0 < L.length) : ∃ g, A = some ⟨g, 0, none⟩ ∧ B ≤ g ∧ g < w.heap.size ∧ ∀ i, w.frozen? ⟨g, i, none⟩ = false := by
  obtain ⟨g, rfl, h1, hg, _⟩ := h.form h0
  exact ⟨g, rfl, h1, hg, fun i => World.ownsRow.frozenAt h i⟩
theorem TO.apart {u : World} {e' : TypeId} {d : Nat} {A' : Option Addr} {m : Nat} {size : Nat} {xs : List Value} (h : TO w e B A c L) (h' : u.ownsRow w.heap.size e' size (.slice A' m d) m xs) : ∀ k, (Value.slice A L.length c).ownBlock = some k → (Value.slice A' m d).ownBlock ≠ some k := fun k hk hk' => by
  have h1 := (h.own_lt k hk).2
  have h2 := (World.ownsRow.lt h' k hk').1
  omega
/-- All cells of records' rows, in flat form: those of the first k records are written. -/
def vmix (l m : List Value) (k : Nat) : List Value := l.take k ++ m.drop k
theorem vmix_zero (l m : List Value) : vmix l m 0 = m := by simp [vmix]
theorem vmix_all {l m : List Value} {n : Nat} (h : m.length = l.length) (hn : l.length = n) : vmix l m n = l := by subst hn; rw [vmix, List.take_length, List.drop_eq_nil_of_le (by omega), List.append_nil]
theorem vmix_len {l m : List Value} (h : m.length = l.length) (k : Nat) : (vmix l m k).length = l.length := by simp [vmix]; omega
theorem vmix_put {l m : List Value} {k : Nat} {v : Value} (h : m.length = l.length) (hv : l[k]? = some v) : (vmix l m k).set k v = vmix l m (k + 1) := by
  have hk : k < l.length := (List.getElem?_eq_some_iff.1 hv).1
  apply List.ext_getElem?
  intro j
  simp only [vmix, List.getElem?_set, List.getElem?_append, List.length_append, List.length_take, List.length_drop, List.getElem?_take, List.getElem?_drop]
  by_cases hj : j = k
  · subst hj
    have e2 : j < min (j + 1) l.length := by omega
    have e3 : j < min j l.length + (m.length - j) := by omega
    simp [e2, e3, hv, show j < j + 1 from by omega]
  · by_cases hl : j < k
    · have e1 : j < min k l.length := by omega
      have e2 : j < min (k + 1) l.length := by omega
      simp [Ne.symm hj, e1, e2, hl, show j < k + 1 from by omega]
    · simp [Ne.symm hj, hl, show ¬ j < k + 1 from by omega, show min k l.length = k from by omega, show min (k + 1) l.length = k + 1 from by omega, show k + (j - k) = j from by omega, show k + 1 + (j - (k + 1)) = j from by omega]
end

/-- An item. -/
structure It where
  k : Int
  w : Int
  st : Int
  sh : Int
  p : Int
  f : Bool
abbrev itv (x : It) : Value := .agg #[.int .i64 x.k, .int .i64 x.w, .int .i64 x.st, .int .i64 x.sh, .int .i64 x.p, .bool x.f]
instance : Rec It := ⟨6, by decide, fun x => [.int .i64 x.k, .int .i64 x.w, .int .i64 x.st, .int .i64 x.sh, .int .i64 x.p, .bool x.f], fun _ => rfl, ⟨0, 0, 0, 0, 0, false⟩⟩
/-- A pair of glyphs. -/
structure Gp where
  a : Int
  b : Int
  v : Int
instance : Rec Gp := ⟨3, by decide, fun x => [.int .i64 x.a, .int .i64 x.b, .int .i64 x.v], fun _ => rfl, ⟨0, 0, 0⟩⟩
theorem TL.at6 {w : World} {A : Option Addr} {n : Nat} {L : List It} (h : TL w A n L) {i : Nat} (hi : i < n) : ∃ b o, A = some ⟨b, o, none⟩ ∧ b < w.heap.size ∧ w.cell? ⟨b, o + i * 6, none⟩ = some (.int .i64 (tg L i).k) ∧ w.cell? ⟨b, o + i * 6 + 1, none⟩ = some (.int .i64 (tg L i).w) ∧
    w.cell? ⟨b, o + i * 6 + 2, none⟩ = some (.int .i64 (tg L i).st) ∧ w.cell? ⟨b, o + i * 6 + 3, none⟩ = some (.int .i64 (tg L i).sh) ∧ w.cell? ⟨b, o + i * 6 + 4, none⟩ = some (.int .i64 (tg L i).p) ∧ w.cell? ⟨b, o + i * 6 + 5, none⟩ = some (.bool (tg L i).f) := by
  obtain ⟨b, o, e, hb, hc⟩ := h.at_ hi
  exact ⟨b, o, e, hb, hc 0 (by decide), hc 1 (by decide), hc 2 (by decide), hc 3 (by decide), hc 4 (by decide), hc 5 (by decide)⟩
theorem TL.at3 {w : World} {A : Option Addr} {n : Nat} {L : List Gp} (h : TL w A n L) {i : Nat} (hi : i < n) : ∃ b o, A = some ⟨b, o, none⟩ ∧ b < w.heap.size ∧ w.cell? ⟨b, o + i * 3, none⟩ = some (.int .i64 (tg L i).a) ∧ w.cell? ⟨b, o + i * 3 + 1, none⟩ = some (.int .i64 (tg L i).b) ∧ w.cell? ⟨b, o + i * 3 + 2, none⟩ = some (.int .i64 (tg L i).v) := by
  obtain ⟨b, o, e, hb, hc⟩ := h.at_ hi
  exact ⟨b, o, e, hb, hc 0 (by decide), hc 1 (by decide), hc 2 (by decide)⟩

/-- A slice of items that came in. -/
theorem items_in {H : Type} {enc : TypeId × Value → H} {P : Program} {w : World} {base : Nat} {sp : Nat → Bool} {held : Bool} {t e : TypeId} {a : Option Addr} {n c : Nat} {d : DataW H} {p : List MemPlace} (ht : P.underlying t = some (.slice e))
    (hk : flat P 5 e = some [.int .i64, .int .i64, .int .i64, .int .i64, .int .i64, .bool]) (hm : P.cellsOf e = 6) (h : DataW.Trod enc P w base sp held t (.slice a n c) d p) : ∃ L : List It, TL w a n L ∧ n ≤ maxLen ∧ ∀ x ∈ L, (Lit.int .i64 x.k).wf = true ∧ (Lit.int .i64 x.w).wf = true ∧ (Lit.int .i64 x.st).wf = true ∧ (Lit.int .i64 x.sh).wf = true ∧ (Lit.int .i64 x.p).wf = true := by
  obtain ⟨h1, h2⟩ := flat_slice ht hk hm (by decide) h
  rcases Nat.eq_zero_or_pos n with h0 | h0
  · subst h0
    exact ⟨[], TL.nil _ _, h1, fun x hx => by cases hx⟩
  · obtain ⟨b, o, rfl, hb, hall⟩ := h2 h0
    have hall2 : ∀ i, i < n → ∃ x : It, ((Lit.int .i64 x.k).wf = true ∧ (Lit.int .i64 x.w).wf = true ∧ (Lit.int .i64 x.st).wf = true ∧ (Lit.int .i64 x.sh).wf = true ∧ (Lit.int .i64 x.p).wf = true) ∧ ∀ j, j < 6 → w.cell? ⟨b, o + i * 6 + j, none⟩ = (Rec.cells x)[j]? := by
      intro i hi
      obtain ⟨cs, ok, hc⟩ := hall i hi
      obtain ⟨_, _, rfl, ⟨a1, rfl, w1⟩, k1⟩ := ok.cons
      obtain ⟨_, _, rfl, ⟨a2, rfl, w2⟩, k2⟩ := k1.cons
      obtain ⟨_, _, rfl, ⟨a3, rfl, w3⟩, k3⟩ := k2.cons
      obtain ⟨_, _, rfl, ⟨a4, rfl, w4⟩, k4⟩ := k3.cons
      obtain ⟨_, _, rfl, ⟨a5, rfl, w5⟩, k5⟩ := k4.cons
      obtain ⟨_, _, rfl, ⟨a6, rfl⟩, k6⟩ := k5.cons
      obtain rfl := k6.done
      exact ⟨⟨a1, a2, a3, a4, a5, a6⟩, ⟨w1, w2, w3, w4, w5⟩, hc⟩
    haveI : Inhabited It := ⟨⟨0, 0, 0, 0, 0, false⟩⟩
    obtain ⟨f, hf⟩ := Go.Deep.choose_lt hall2
    refine ⟨(List.range n).map f, ⟨by simp, fun _ => ⟨b, o, rfl, hb, fun i hi j hj => ?_⟩⟩, h1, fun x hx => ?_⟩
    · rw [show tg ((List.range n).map f) i = f i from by simp [tg, List.getD, hi]]
      exact (hf i hi).2 j hj
    · obtain ⟨i, hi, rfl⟩ := List.mem_map.1 hx
      exact (hf i (List.mem_range.1 hi)).1
/-- A slice of pairs of glyphs that came in. -/
theorem pairs_in {H : Type} {enc : TypeId × Value → H} {P : Program} {w : World} {base : Nat} {sp : Nat → Bool} {held : Bool} {t e : TypeId} {a : Option Addr} {n c : Nat} {d : DataW H} {p : List MemPlace} (ht : P.underlying t = some (.slice e))
    (hk : flat P 5 e = some [.int .i64, .int .i64, .int .i64]) (hm : P.cellsOf e = 3) (h : DataW.Trod enc P w base sp held t (.slice a n c) d p) : ∃ L : List Gp, TL w a n L ∧ n ≤ maxLen := by
  obtain ⟨h1, h2⟩ := flat_slice ht hk hm (by decide) h
  rcases Nat.eq_zero_or_pos n with h0 | h0
  · subst h0
    exact ⟨[], TL.nil _ _, h1⟩
  · obtain ⟨b, o, rfl, hb, hall⟩ := h2 h0
    have hall2 : ∀ i, i < n → ∃ x : Gp, ∀ j, j < 3 → w.cell? ⟨b, o + i * 3 + j, none⟩ = (Rec.cells x)[j]? := by
      intro i hi
      obtain ⟨cs, ok, hc⟩ := hall i hi
      obtain ⟨_, _, rfl, ⟨a1, rfl, w1⟩, k1⟩ := ok.cons
      obtain ⟨_, _, rfl, ⟨a2, rfl, w2⟩, k2⟩ := k1.cons
      obtain ⟨_, _, rfl, ⟨a3, rfl, w3⟩, k3⟩ := k2.cons
      obtain rfl := k3.done
      exact ⟨⟨a1, a2, a3⟩, hc⟩
    haveI : Inhabited Gp := ⟨⟨0, 0, 0⟩⟩
    obtain ⟨f, hf⟩ := Go.Deep.choose_lt hall2
    refine ⟨(List.range n).map f, ⟨by simp, fun _ => ⟨b, o, rfl, hb, fun i hi j hj => ?_⟩⟩, h1⟩
    rw [show tg ((List.range n).map f) i = f i from by simp [tg, List.getD, hi]]
    exact hf i hi j hj
end Go.Proofs.Ytafddofajfcffaa

/- The laws' helpers on glue and on slices of pairs of glyphs. -/
namespace Go.Proofs.Ytafddofajfcffaa
open Go.ChangeShapes Go.WideShapes Go.ChangeAt Go.RowKit
set_option linter.unusedVariables false

theorem toGlue_h (a b c : Int) (w : World) :
    Calls Try.prog 116 #[gv a b c] w fun e w' => e = .returned (gv a b c) ∧ Below w.heap.size w w' := by
  go_enter Try.func116, Try.ntmps116
  go_wp2
  refine bodyPost_ret (v := gv a b c) (by simp [results, Try.results116, go_sem, *]) rfl ⟨rfl, ?_⟩
  repeat' (first | with_reducible exact bl_refl _ | with_reducible assumption | with_reducible refine bl_alloc ?_ _ | with_reducible refine bl_set ?_ ?_ _ | with_reducible refine bl_drewN ?_ _ | with_reducible refine bl_drew ?_ | with_reducible refine bl_call (by assumption) ?_)
  all_goals (first | omega | (simp; done) | (simp; omega))
theorem eqGlue_h (a b c : Int) (w : World) :
    Calls Try.prog 124 #[gv a b c, gv a b c] w fun e w' => e = .returned (.bool true) ∧ Below w.heap.size w w' := by
  go_enter Try.func124, Try.ntmps124
  go_wp2
  go_ret
  refine ⟨rfl, ?_⟩
  repeat' (first | with_reducible exact bl_refl _ | with_reducible assumption | with_reducible refine bl_alloc ?_ _ | with_reducible refine bl_set ?_ ?_ _ | with_reducible refine bl_drewN ?_ _ | with_reducible refine bl_drew ?_ | with_reducible refine bl_call (by assumption) ?_)

/-- Three cells of an own row are stored, one behind the other. -/
theorem own_put3 {w : World} {B g n c p : Nat} {e : TypeId} {F M : List Value} {a b v : Value} (h : w.ownsRow B e 3 (.slice (some ⟨g, 0, none⟩) n c) n (vmix F M (p * 3))) (hl : M.length = F.length)
    (h0 : F[p * 3]? = some a) (h1 : F[p * 3 + 1]? = some b) (h2 : F[p * 3 + 2]? = some v) :
    (((w.setCell ⟨g, p * 3, none⟩ a).setCell ⟨g, p * 3 + 1, none⟩ b).setCell ⟨g, p * 3 + 2, none⟩ v).ownsRow B e 3 (.slice (some ⟨g, 0, none⟩) n c) n (vmix F M ((p + 1) * 3)) := by
  have s0 := (World.ownsRow.stored h (p * 3) a).1
  rw [vmix_put hl h0] at s0
  have s1 := (World.ownsRow.stored s0 (p * 3 + 1) b).1
  rw [vmix_put hl h1] at s1
  have s2 := (World.ownsRow.stored s1 (p * 3 + 2) v).1
  rw [vmix_put hl h2] at s2
  rw [show (p + 1) * 3 = p * 3 + 2 + 1 from by omega]
  exact s2
/-- A cell of an own row. -/
theorem own_cell {w : World} {B g n c size j : Nat} {e : TypeId} {xs : List Value} (h : w.ownsRow B e size (.slice (some ⟨g, 0, none⟩) n c) n xs) (hj : j < n * size) : ∃ v, w.cell? ⟨g, j, none⟩ = some v := by
  have h1 := World.ownsRow.cellAt h j hj
  rw [List.getElem?_eq_getElem (by rw [h.1]; exact hj)] at h1
  exact ⟨_, h1⟩

end Go.Proofs.Ytafddofajfcffaa

/- append of one record to a slice of records that the call made. It speaks of no program. -/
namespace Go.Proofs.Ytafddofajfcffaa
open Go.ChangeShapes Go.WideShapes Go.ChangeAt Go.RowKit
set_option linter.unusedVariables false

section
variable {α : Type} [Rec α]
theorem TO.of_own {w : World} {B n : Nat} {e : TypeId} {v : Value} {xs : List Value} {L : List α} (h : w.ownsRow B e (Rec.size α) v n xs) (hx : xs = L.flatMap Rec.cells) : ∃ A c, v = .slice A n c ∧ n = L.length ∧ TO w e B A c L := by
  subst hx
  have hn : n = L.length := by
    have h1 := h.1
    rw [flat_len] at h1
    exact (Nat.eq_of_mul_eq_mul_right (Rec.pos (α := α)) h1).symm
  subst hn
  rcases h.2 with ⟨rfl, h1⟩ | ⟨g, cap, cur, rfl, h2⟩
  · have := List.eq_nil_of_length_eq_zero h1
    subst this
    exact ⟨none, 0, rfl, rfl, h⟩
  · exact ⟨_, _, rfl, rfl, h⟩
theorem TO.lit0 {w : World} {e : TypeId} {B : Nat} (hB : B ≤ w.heap.size) : TO (w.alloc (.cells #[] e)) e B (some ⟨w.heap.size, 0, none⟩) 0 ([] : List α) := by
  have := World.ownsRow_lit (base := B) (e := e) (size := Rec.size α) w #[] 0 hB (by unfold maxLen; omega) (by simp)
  unfold TO
  simpa using this

theorem wpList_append_rec {P : Program} {ops : Array Oper} {rest : List Oper} {o : Oper} {a : Act} {Q : Exit → Act → World → Prop} {w : World} (hgd : o.guard = none) (s x : Operand) (t : TypeId)
    (ho : o.op = .call { callee := .builtin .append, args := #[s, x], argTypes := #[t, t] })
    (e : TypeId) (i : TypeInfo) (zv : Value) (bytes : Nat) (ht : P.underlying t = some (.slice e)) (hi : P.info? e = some i) (hz : i.zero = some zv) (hsize : i.size = Rec.size α) (hby : i.bytes = bytes) (hzs : zv.cells.size = Rec.size α) (hbl : bytes ≤ 64)
    (B : Nat) (A : Option Addr) (c n : Nat) (L : List α) (hs : a.eval s = .slice A n c) (hn : n = L.length) (hown : TO w e B A c L)
    (b : Nat) (r : α) (hx : a.eval x = .slice (some ⟨b, 0, none⟩) 1 1) (h1 : ∀ u ∈ Rec.cells r, u.oneCell' = true) (hc : ∀ j, j < Rec.size α → w.cell? ⟨b, j, none⟩ = (Rec.cells r)[j]?) (hlen : n ≤ 1000000000000) (hB : B ≤ w.heap.size)
    (h : ∀ A' c' w', TO w' e B A' c' (L ++ [r]) → Below B w w' → w.grownBy w' (Value.slice A n c).ownBlock → wpList P ops Q rest (a.put o.dst (.slice A' (n + 1) c')) w') : wpList P ops Q (o :: rest) a w := by
  subst hn
  refine wpList_append_own w hgd s x t ho B e i zv (Rec.size α) bytes ht hi hz hsize hby hzs Rec.pos _ L.length (L.flatMap Rec.cells) hs hown ⟨b, 0, none⟩ 1 1 (Rec.cells r) hx (by rw [Rec.len, Nat.one_mul]) ?_ h1 (by unfold maxLen; omega) ?_ hB ?_
  · intro j u hj
    have hj2 : j < Rec.size α := by
      have := (List.getElem?_eq_some_iff.1 hj).1
      rwa [Rec.len] at this
    rw [← hj, ← hc j hj2]
    congr 1
    by_cases h0 : j = 0 <;> simp [Addr.add, h0]
  · have : (L.length + 1) * bytes ≤ (L.length + 1) * 64 := Nat.mul_le_mul_left _ hbl
    omega
  · intro v' w' hown' hgr _
    obtain ⟨A', c', rfl, hl, hol⟩ := TO.of_own (L := L ++ [r]) hown' (by simp)
    exact h A' c' w' hol ((Below.refl _ _).grown hgr hB (fun k hk => (hown.own_lt k hk).1)) hgr
end
end Go.Proofs.Ytafddofajfcffaa

/- Taking one operation of a drawn region, in few words. It speaks of no program. -/
namespace Go.Proofs.Ytafddofajfcffaa

theorem tkY {P : Program} {ops : Array Oper} {Q : Exit → Act → World → Prop} {md : Region.Mode} {S : World → Prop} {i : Nat} {oi : Oper} {v : Value} {fuel : Nat} {listed : Array Bool} {a : Act} {w : World} (hi : ops[i]? = some oi)
    (hc : (Region.noSelect ops && (Region.free md ops listed i && (Region.ready md ops listed).contains i)) = true) (hQ : ∀ c a w, Q (.panic c) (a.put oi.dst v) w → Q (.panic c) a w)
    (hw : Region.wanted oi (yielded ops a.tmps) = true) (hy : ∀ w, S w → (execOp a.eval oi).run P w = .ok (.value v) w) (hS : S w)
    (h : wpAnyH P md ops Q S fuel (listed.setIfInBounds i true) (a.put oi.dst v) w) : wpAnyH P md ops Q S (fuel + 1) listed a w := by
  simp only [Bool.and_eq_true] at hc
  exact wpAnyH_take hi hc.1 hc.2.1 hc.2.2 hQ (.inl ⟨hw, hy⟩) hS h
theorem tkN {P : Program} {ops : Array Oper} {Q : Exit → Act → World → Prop} {md : Region.Mode} {S : World → Prop} {i : Nat} {oi : Oper} {fuel : Nat} {listed : Array Bool} {a : Act} {w : World} (hi : ops[i]? = some oi)
    (hc : (Region.noSelect ops && (Region.free md ops listed i && (Region.ready md ops listed).contains i)) = true) (hQ : ∀ c a w, Q (.panic c) (a.put oi.dst undef) w → Q (.panic c) a w)
    (hw : Region.wanted oi (yielded ops a.tmps) = false) (hS : S w)
    (h : wpAnyH P md ops Q S fuel (listed.setIfInBounds i true) (a.put oi.dst undef) w) : wpAnyH P md ops Q S (fuel + 1) listed a w := by
  simp only [Bool.and_eq_true] at hc
  exact wpAnyH_take hi hc.1 hc.2.1 hc.2.2 hQ (.inr ⟨hw, rfl⟩) hS h
theorem tka {α : Type} (l : List α) (i : Nat) : l.toArray[i]? = l[i]? := List.getElem?_toArray
theorem tkb {α : Type} (a : α) (l : List α) (i : Nat) : (a :: l)[i + 1]? = l[i]? := List.getElem?_cons_succ
theorem tkc {α : Type} (a : α) (l : List α) : (a :: l)[0]? = some a := List.getElem?_cons_zero
theorem tkd {α : Type} (l : List α) (i : Nat) (x : α) : l.toArray.setIfInBounds i x = (l.set i x).toArray := by simp
theorem tke {α : Type} (a x : α) (l : List α) : (a :: l).set 0 x = x :: l := rfl
theorem tkf {α : Type} (a x : α) (l : List α) (i : Nat) : (a :: l).set (i + 1) x = a :: l.set i x := rfl
end Go.Proofs.Ytafddofajfcffaa

/- What a stretch of a walk has left as it was: all blocks but those of one span, and new ones. They speak of no program. -/
namespace Go.Proofs.Ytafddofajfcffaa
open Go.ChangeShapes Go.WideShapes Go.ChangeAt Go.RowKit
set_option linter.unusedVariables false

/-- From w to w' no block that was there has turned, but those from B on and below T. -/
structure Sp (B T : Nat) (w w' : World) : Prop where
  os : w'.os = w.os
  tape : w'.tape = w.tape
  output : w'.output = w.output
  size : w.heap.size ≤ w'.heap.size
  block : ∀ i, i < w.heap.size → i < B ∨ T ≤ i → w'.heap[i]? = w.heap[i]?

section
variable {B T B' n c : Nat} {w W w1 : World}
theorem sp_refl (B T : Nat) (w : World) : Sp B T w w := ⟨rfl, rfl, rfl, Nat.le_refl _, fun _ _ _ => rfl⟩
theorem sp_drewN (h : Sp B T w W) (k : Nat) : Sp B T w (W.drewN k) := ⟨h.os, h.tape, h.output, h.size, h.block⟩
theorem sp_drew (h : Sp B T w W) : Sp B T w W.drew := ⟨h.os, h.tape, h.output, h.size, h.block⟩
theorem sp_alloc (h : Sp B T w W) (o : Obj) : Sp B T w (W.alloc o) := ⟨h.os, h.tape, h.output, Nat.le_trans h.size (by simp), fun i hi hk => (Below.heap_alloc W o i (Nat.lt_of_lt_of_le hi h.size)).trans (h.block i hi hk)⟩
theorem sp_set (h : Sp B T w W) {p : Addr} (hp : (B ≤ p.block ∧ p.block < T) ∨ w.heap.size ≤ p.block) (u : Value) : Sp B T w (W.setCell p u) :=
  ⟨h.os, h.tape, h.output, by simpa [World.setCell] using h.size, fun i hi hk => (Below.heap_setCell W p u i (by rintro rfl; omega)).trans (h.block i hi hk)⟩
theorem sp_call (hb : Below W.heap.size W w1) (h : Sp B T w W) : Sp B T w w1 := ⟨hb.os.trans h.os, hb.tape.trans h.tape, hb.output.trans h.output, Nat.le_trans h.size hb.size, fun i hi hk => (hb.block i (Nat.lt_of_lt_of_le hi h.size)).trans (h.block i hi hk)⟩
theorem sp_grown (h : Sp B T w W) {row : Option Nat} (hg : W.grownBy w1 row) (hr : ∀ k, row = some k → (B ≤ k ∧ k < T) ∨ w.heap.size ≤ k) : Sp B T w w1 :=
  ⟨hg.os.trans h.os, hg.tape.trans h.tape, hg.output.trans h.output, Nat.le_trans h.size hg.size, fun i hi hk => (hg.block i (Nat.lt_of_lt_of_le hi h.size) (fun e => by have := hr i e.symm; omega)).trans (h.block i hi hk)⟩
theorem sp_trans (h : Sp B T w W) (h' : Sp B T W w1) : Sp B T w w1 := ⟨h'.os.trans h.os, h'.tape.trans h.tape, h'.output.trans h.output, Nat.le_trans h.size h'.size, fun i hi hk => (h'.block i (Nat.lt_of_lt_of_le hi h.size) hk).trans (h.block i hi hk)⟩
theorem bl_sp {w0 : World} (h0 : Below w0.heap.size w0 w) (h : Sp B T w W) (hB : w0.heap.size ≤ B) : Below w0.heap.size w0 W :=
  ⟨h.os.trans h0.os, h.tape.trans h0.tape, h.output.trans h0.output, Nat.le_trans h0.size h.size, fun i hi => (h.block i (Nat.lt_of_lt_of_le hi h0.size) (.inl (Nat.lt_of_lt_of_le hi hB))).trans (h0.block i hi)⟩
theorem own_sp {e : TypeId} {size : Nat} {v : Value} {xs : List Value} (h : w.ownsRow B' e size v n xs) (hs : Sp B T w W) (hk : ∀ k, v.ownBlock = some k → k < B ∨ T ≤ k) : W.ownsRow B' e size v n xs := by
  refine ⟨h.1, ?_⟩
  rcases h.2 with h0 | ⟨g, cap, cur, h1, h2, h3, h4⟩
  · exact .inl h0
  · refine .inr ⟨g, cap, cur, h1, h2, ?_, h4⟩
    rw [hs.block g (Array.getElem?_eq_some_iff.1 h3).1 (hk g (by rw [h1]; rfl))]
    exact h3
theorem OL.sp {e : TypeId} {A : Option Addr} {l : List Int} (h : OL w e B' A c l) (hs : Sp B T w W) (hk : T ≤ B') : OL W e B' A c l := own_sp h hs (fun k h1 => .inr (Nat.le_trans hk (h.own_lt k h1).1))
theorem TO.sp {α : Type} [Rec α] {e : TypeId} {A : Option Addr} {l : List α} (h : TO w e B' A c l) (hs : Sp B T w W) (hk : T ≤ B') : TO W e B' A c l := own_sp h hs (fun k h1 => .inr (Nat.le_trans hk (h.own_lt k h1).1))
end
end Go.Proofs.Ytafddofajfcffaa

/- The iterator over pieces, and a range over it: 'for from, to := range piecesOf(start, ends)'. -/
namespace Go.Proofs.Ytafddofajfcffaa
open Go.ChangeShapes Go.WideShapes Go.ChangeAt Go.RowKit Go.Shelf
set_option linter.unusedVariables false
attribute [local go_sem] Oper.semAt_some

/-- Where piece k begins. -/
def frm (s : Int) (E : List Int) (k : Nat) : Int := if k = 0 then s else ng E (k - 1)
theorem frm_zero (s : Int) (E : List Int) : frm s E 0 = s := rfl
theorem frm_succ (s : Int) (E : List Int) (k : Nat) : frm s E (k + 1) = ng E k := rfl
/-- The first k pieces, by number. -/
def pcs (n k : Nat) : List (Fin n) := (List.finRange n).take k
theorem pcs_len {n k : Nat} (h : k ≤ n) : (pcs n k).length = k := by simp [pcs]; omega
theorem pcs_zero (n : Nat) : pcs n 0 = [] := by simp [pcs]
theorem pcs_succ {n k : Nat} (h : k < n) : pcs n (k + 1) = pcs n k ++ [⟨k, h⟩] := by
  unfold pcs
  rw [List.take_succ_eq_append_getElem (by simpa using h)]
  simp
abbrev encP (s : Int) (E : List Int) (x : Fin E.length) : Array Value := #[.int .i64 (frm s E x.val), .int .i64 (ng E x.val)]
set_option maxRecDepth 100000 in
set_option maxHeartbeats 2000000 in
theorem pieces1_in (F : Fence) (n : Nat) (h7 : F.fn 157) (hro : F.round = none) (hn : 1 ≤ n) (l B1 B2 n₀ : Nat) (s : Int) (A : Option Addr) (c : Nat) (E : List Int) (hl : E.length ≤ 4611686018427387904) (J Jx : List (Fin E.length) → World → Prop)
    (hY : ∀ pre x W, J pre W → pre.length < E.length → YieldAt F (n - 1) Try.prog l (encP s E x) W fun e W' =>
      (e = .returned (.bool true) ∧ J (pre ++ [x]) W' ∧ Below n₀ W W') ∨ (e = .returned (.bool false) ∧ Jx (pre ++ [x]) W'))
    (W : World) (hB1 : W.cell? ⟨B1, 0, none⟩ = some (.int .i64 s)) (hB2 : W.cell? ⟨B2, 0, none⟩ = some (.slice A E.length c))
    (hE : ∀ j, j < E.length → ∃ b o, A = some ⟨b, o, none⟩ ∧ b < n₀ ∧ W.cell? ⟨b, o + j, none⟩ = some (.int .i64 (ng E j))) (h0 : J [] W) :
    CallsIn F n Try.prog 157 #[.func (.yield l) #[] #[], .pointer (some ⟨B1, 0, none⟩), .pointer (some ⟨B2, 0, none⟩)] W fun e W' => (∃ v, e = .returned v) ∧
      ((∃ ys, ys = pcs E.length E.length ∧ J ys W') ∨ (∃ pre, (∃ k, k ≤ E.length ∧ pre = pcs E.length k) ∧ Jx pre W')) := by
  refine callsIn_of_wp Try.func157 rfl h7 ?_ hro
  simp only [Try.ntmps157, List.size_toArray, List.length_cons, List.length_nil, Nat.reduceAdd, Nat.reduceSub, Array.replicate_succ, Array.replicate_zero, List.push_toArray, List.append_toArray, List.nil_append, List.cons_append]
  gi_wp2
  clear hB1 hB2
  gi_loopw [4, 10] (fun f i wr => ∃ k : Nat, k ≤ E.length ∧ f = .int .i64 (frm s E k) ∧ i = .int .i64 k ∧ J (pcs E.length k) wr ∧ Below n₀ W wr) (fun _ i _ => E.length - (intOf i).toNat)
  case atStart => exact ⟨0, Nat.zero_le _, rfl, rfl, by rw [pcs_zero]; exact h0, Below.refl _ _⟩
  case round =>
    obtain ⟨k, hk, rfl, rfl, hJs, hnx⟩ := hrel
    by_cases hlt : k < E.length
    · obtain ⟨b, o, rfl, hb, hc⟩ := hE k hlt
      have hc' := (hnx.cell (p := ⟨b, o + k, none⟩) hb).trans hc
      obtain ⟨fn, tmps, assign, body, hy, hR⟩ := hY _ ⟨k, hlt⟩ wr hJs (by rw [pcs_len hk]; exact hlt)
      dsimp only [encP] at hy
      clear hc
      gi_wp2
      refine hR.mono ?_
      rintro e W3 (⟨rfl, hJ3, hk3⟩ | ⟨rfl, hJx3⟩)
      · gi_wp2
        go_roundw
        case rel => exact ⟨k + 1, by omega, by rw [frm_succ], by simp, by rw [pcs_succ hlt]; exact hJ3, hnx.trans hk3⟩
        case measure => simp [intOf]; omega
      · gi_wp2
        refine bodyPost_ret (results_none rfl _ _ _) rfl ?_
        exact ⟨⟨_, rfl⟩, .inr ⟨_, ⟨k + 1, by omega, (pcs_succ hlt).symm⟩, hJx3⟩⟩
    · obtain rfl : k = E.length := by omega
      gi_wp2
      go_end0
      exact ⟨⟨_, rfl⟩, .inl ⟨_, rfl, hJs⟩⟩
theorem pieces_stops (F : Fence) (n : Nat) (h7 : F.fn 157) (hro : F.round = none) (hn : 1 ≤ n) (B1 B2 n₀ : Nat) (s : Int) (A : Option Addr) (c : Nat) (E : List Int) (hl : E.length ≤ 4611686018427387904) (w : World) (hb1 : B1 < w.heap.size) (hb2 : B2 < w.heap.size) (hn₀ : n₀ ≤ w.heap.size)
    (hB1 : w.cell? ⟨B1, 0, none⟩ = some (.int .i64 s)) (hB2 : w.cell? ⟨B2, 0, none⟩ = some (.slice A E.length c))
    (hE : ∀ j, j < E.length → ∃ b o, A = some ⟨b, o, none⟩ ∧ b < n₀ ∧ w.cell? ⟨b, o + j, none⟩ = some (.int .i64 (ng E j))) :
    SeqStopsK F n Try.prog 157 #[.pointer (some ⟨B1, 0, none⟩), .pointer (some ⟨B2, 0, none⟩)] (encP s E) (Below n₀) (fun ys => ys = pcs E.length E.length) (fun pre => ∃ k, k ≤ E.length ∧ pre = pcs E.length k) E.length w := fun l J Jx W hW _ _ hY h0 =>
  pieces1_in F n h7 hro hn l B1 B2 n₀ s A c E hl J Jx hY W ((hW.cell (p := ⟨B1, 0, none⟩) hb1).trans hB1) ((hW.cell (p := ⟨B2, 0, none⟩) hb2).trans hB2)
    (fun j hj => by
      obtain ⟨b, o, e, hb, hc⟩ := hE j hj
      exact ⟨b, o, e, hb, (hW.cell (p := ⟨b, o + j, none⟩) (Nat.lt_of_lt_of_le hb hn₀)).trans hc⟩) h0
theorem piecesOf_i (s : Int) (A : Option Addr) (n c : Nat) (w : World) :
    Calls Try.prog 126 #[.int .i64 s, .slice A n c] w fun e w' => e = .returned (.func (.func 157) #[] #[.pointer (some ⟨w.heap.size, 0, none⟩), .pointer (some ⟨w.heap.size + 1, 0, none⟩)]) ∧ (w.alloc (.cells #[.int .i64 s] 3)).alloc (.cells #[.slice A n c] 24) = w' := by
  go_enter Try.func126, Try.ntmps126
  go_wp2
  go_ret
  exact ⟨rfl, rfl⟩
end Go.Proofs.Ytafddofajfcffaa

/- The sum of the costs of pages. -/
namespace Go.Proofs.Ytafddofajfcffaa
open Go.ChangeShapes Go.WideShapes Go.ChangeAt Go.RowKit Go.Shelf
set_option linter.unusedVariables false
set_option linter.unusedSimpArgs false
attribute [local go_sem] Oper.semAt_some

theorem keeps_below {W W' : World} (h : Below W.heap.size W W') : KeepsOthers W W' := ⟨h.size, fun k o hk _ => (h.block k (Array.getElem?_eq_some_iff.1 hk).1).trans hk⟩
/-- The sum of f over the first k numbers. -/
def sto (f : Nat → Int) : Nat → Int
  | 0 => 0
  | k + 1 => sto f k + f k
theorem sto_congr {f g : Nat → Int} : ∀ {k : Nat}, (∀ j, j < k → f j = g j) → sto f k = sto g k
  | 0, _ => rfl
  | k + 1, h => by simp only [sto]; rw [sto_congr (fun j hj => h j (by omega)), h k (by omega)]
theorem sto_bd {f : Nat → Int} {M : Int} : ∀ {k : Nat}, (∀ j, j < k → -M ≤ f j ∧ f j ≤ M) → -(M * k) ≤ sto f k ∧ sto f k ≤ M * k
  | 0, _ => by simp [sto]
  | k + 1, h => by
    have a := sto_bd (k := k) (fun j hj => h j (by omega))
    have b := h k (by omega)
    simp only [sto]
    rw [show (((k + 1 : Nat) : Int)) = (k : Int) + 1 by omega, Int.mul_add, Int.mul_one]
    omega
section
variable (s : Int) (E : List Int) (C : Nat → Int → Int → Int × Bool)
/-- What piece number x costs as the j-th. -/
def cAt (j : Nat) (x : Fin E.length) : Int × Bool := C j (frm s E x.val) (ng E x.val)
/-- All of a list of pieces are allowed. -/
def okP (l : List (Fin E.length)) : Prop := ∀ j (h : j < l.length), (cAt s E C j l[j]).2 = true
/-- Their sum. -/
def cO (j : Nat) : Option (Fin E.length) → Int
  | some x => (cAt s E C j x).1
  | none => 0
def sumP (l : List (Fin E.length)) : Int := sto (fun j => cO s E C j l[j]?) l.length
end
variable {s : Int} {E : List Int} {C : Nat → Int → Int → Int × Bool}
theorem okP_bad {l : List (Fin E.length)} {x : Fin E.length} (hx : (cAt s E C l.length x).2 = false) : ¬ okP s E C (l ++ [x]) := fun h => by
  have := h l.length (by simp)
  rw [List.getElem_append_right (Nat.le_refl _)] at this
  simp only [Nat.sub_self, List.getElem_singleton] at this
  rw [hx] at this
  cases this
theorem sumP_bd {M : Int} (hM : ∀ j p q, -M ≤ (C j p q).1 ∧ (C j p q).1 ≤ M) {l : List (Fin E.length)} : -(M * l.length) ≤ sumP s E C l ∧ sumP s E C l ≤ M * l.length := by
  have hM0 : 0 ≤ M := by have := hM 0 0 0; omega
  unfold sumP
  refine sto_bd fun j hj => ?_
  rw [List.getElem?_eq_getElem hj]
  exact hM _ _ _
theorem okP_nil : okP s E C [] := fun j h => by simp at h
theorem okP_snoc {l : List (Fin E.length)} {x : Fin E.length} (h : okP s E C l) (hx : (cAt s E C l.length x).2 = true) : okP s E C (l ++ [x]) := fun j hj => by
  rw [List.length_append] at hj
  simp at hj
  rcases (by omega : j < l.length ∨ j = l.length) with e | e
  · rw [List.getElem_append_left e]; exact h j e
  · subst e
    rw [List.getElem_append_right (Nat.le_refl _)]
    simpa using hx
theorem sumP_nil : sumP s E C [] = 0 := rfl
theorem sumP_snoc {l : List (Fin E.length)} {x : Fin E.length} : sumP s E C (l ++ [x]) = sumP s E C l + (cAt s E C l.length x).1 := by
  unfold sumP
  rw [show (l ++ [x]).length = l.length + 1 by simp]
  simp only [sto]
  congr 1
  · apply sto_congr
    intro j hj
    rw [List.getElem?_append_left hj]
  · simp [cO]
/-- What totalCost answers. -/
def okT (s : Int) (E : List Int) (C : Nat → Int → Int → Int × Bool) (k : Nat) : Prop := ∀ j, j < k → (C j (frm s E j) (ng E j)).2 = true
noncomputable def toO (s : Int) (E : List Int) (C : Nat → Int → Int → Int × Bool) : Int × Bool :=
  open Classical in if okT s E C E.length then (sto (fun j => (C j (frm s E j) (ng E j)).1) E.length, true) else (0, false)
theorem toO_yes (h : okT s E C E.length) : toO s E C = (sto (fun j => (C j (frm s E j) (ng E j)).1) E.length, true) := by
  unfold toO; rw [if_pos h]
theorem toO_no (h : ¬ okT s E C E.length) : toO s E C = (0, false) := by
  unfold toO; rw [if_neg h]
theorem pcs_at {n k j : Nat} (hk : k ≤ n) (hj : j < (pcs n k).length) : ((pcs n k)[j]).val = j := by
  simp [pcs]
theorem okP_pcs {k : Nat} (hk : k ≤ E.length) : okP s E C (pcs E.length k) ↔ okT s E C k := by
  constructor
  · intro h j hj
    have := h j (by rw [pcs_len hk]; exact hj)
    unfold cAt at this
    rwa [pcs_at hk] at this
  · intro h j hj
    unfold cAt
    rw [pcs_at hk]
    exact h j (by rwa [pcs_len hk] at hj)
theorem sumP_pcs {k : Nat} (hk : k ≤ E.length) : sumP s E C (pcs E.length k) = sto (fun j => (C j (frm s E j) (ng E j)).1) k := by
  unfold sumP
  rw [pcs_len hk]
  apply sto_congr
  intro j hj
  rw [List.getElem?_eq_getElem (by rw [pcs_len hk]; exact hj)]
  show (cAt s E C j _).1 = _
  unfold cAt
  rw [pcs_at hk]
end Go.Proofs.Ytafddofajfcffaa

/- The sum of the costs of lines. -/
namespace Go.Proofs.Ytafddofajfcffaa
open Go.ChangeShapes Go.WideShapes Go.ChangeAt Go.RowKit Go.Shelf
set_option linter.unusedVariables false
set_option linter.unusedSimpArgs false
attribute [local go_sem] Oper.semAt_some

set_option maxRecDepth 100000 in
set_option maxHeartbeats 4000000 in
theorem total_lines (w : World) (A : Option Addr) (c : Nat) (E : List Int) (hE : IL w A E.length E) (hl : E.length ≤ 1048576) (s : Int) (C : Nat → Int → Int → Int × Bool) (q1 q2 q3 : Value) (hM : ∀ j p q, -8000000000 ≤ (C j p q).1 ∧ (C j p q).1 ≤ 8000000000)
    (HC : ∀ (u : World), Below w.heap.size w u → ∀ (i : Nat) (x : Fin E.length), Calls Try.prog 128 #[.int .i64 i, .int .i64 (frm s E x.val), .int .i64 (ng E x.val), q1, q2, q3] u fun e u' => e = .returned (.tuple #[.int .i64 (C i (frm s E x.val) (ng E x.val)).1, .bool (C i (frm s E x.val) (ng E x.val)).2]) ∧ Below u.heap.size u u') :
    Calls Try.prog 127 #[.int .i64 s, .slice A E.length c, .func (.func 128) #[] #[q1, q2, q3]] w fun e w' => e = .returned (.tuple #[.int .i64 (toO s E C).1, .bool (toO s E C).2]) ∧ Below w.heap.size w w' := by
  have HHC := hide HC
  clear HC
  refine (callsIn_wide (n := 5)).1 ?_
  refine callsIn_of_wp_marks Try.func127 rfl trivial ?_ rfl
  simp only [Try.ntmps127, List.size_toArray, List.length_cons, List.length_nil, Nat.reduceAdd, Nat.reduceSub, Array.replicate_succ, Array.replicate_zero, List.push_toArray, List.append_toArray, List.nil_append, List.cons_append]
  gi_wp2_with (refine ⟨trivial, ?_⟩; gi_at_call 126; refine (callsIn_wide.2 (piecesOf_i s A E.length c _)).mono ?_; rintro e w' ⟨rfl, rfl⟩)
  have c5 : (((((((w.alloc (.cells #[.func (.func 128) #[] #[q1, q2, q3]] 104)).alloc (.cells #[.int .i64 0] 3)).alloc (.cells #[.bool false] 4)).alloc (.cells #[.int .i64 0] 3)).alloc (.cells #[.int .i64 0] 3)).alloc (.cells #[.int .i64 s] 3)).alloc (.cells #[.slice A E.length c] 24)).cell? ⟨w.heap.size, 0, none⟩ = some (.func (.func 128) #[] #[q1, q2, q3]) := by simp [go_sem]
  have c6 : (((((((w.alloc (.cells #[.func (.func 128) #[] #[q1, q2, q3]] 104)).alloc (.cells #[.int .i64 0] 3)).alloc (.cells #[.bool false] 4)).alloc (.cells #[.int .i64 0] 3)).alloc (.cells #[.int .i64 0] 3)).alloc (.cells #[.int .i64 s] 3)).alloc (.cells #[.slice A E.length c] 24)).cell? ⟨w.heap.size + 1, 0, none⟩ = some (.int .i64 0) := by simp [go_sem]
  have f6 : (((((((w.alloc (.cells #[.func (.func 128) #[] #[q1, q2, q3]] 104)).alloc (.cells #[.int .i64 0] 3)).alloc (.cells #[.bool false] 4)).alloc (.cells #[.int .i64 0] 3)).alloc (.cells #[.int .i64 0] 3)).alloc (.cells #[.int .i64 s] 3)).alloc (.cells #[.slice A E.length c] 24)).frozen? ⟨w.heap.size + 1, 0, none⟩ = false := by simp [go_sem]
  have c7 : (((((((w.alloc (.cells #[.func (.func 128) #[] #[q1, q2, q3]] 104)).alloc (.cells #[.int .i64 0] 3)).alloc (.cells #[.bool false] 4)).alloc (.cells #[.int .i64 0] 3)).alloc (.cells #[.int .i64 0] 3)).alloc (.cells #[.int .i64 s] 3)).alloc (.cells #[.slice A E.length c] 24)).cell? ⟨w.heap.size + 1 + 1, 0, none⟩ = some (.bool false) := by simp [go_sem]
  have f7 : (((((((w.alloc (.cells #[.func (.func 128) #[] #[q1, q2, q3]] 104)).alloc (.cells #[.int .i64 0] 3)).alloc (.cells #[.bool false] 4)).alloc (.cells #[.int .i64 0] 3)).alloc (.cells #[.int .i64 0] 3)).alloc (.cells #[.int .i64 s] 3)).alloc (.cells #[.slice A E.length c] 24)).frozen? ⟨w.heap.size + 1 + 1, 0, none⟩ = false := by simp [go_sem]
  have c8 : (((((((w.alloc (.cells #[.func (.func 128) #[] #[q1, q2, q3]] 104)).alloc (.cells #[.int .i64 0] 3)).alloc (.cells #[.bool false] 4)).alloc (.cells #[.int .i64 0] 3)).alloc (.cells #[.int .i64 0] 3)).alloc (.cells #[.int .i64 s] 3)).alloc (.cells #[.slice A E.length c] 24)).cell? ⟨w.heap.size + 1 + 1 + 1, 0, none⟩ = some (.int .i64 0) := by simp [go_sem]
  have f8 : (((((((w.alloc (.cells #[.func (.func 128) #[] #[q1, q2, q3]] 104)).alloc (.cells #[.int .i64 0] 3)).alloc (.cells #[.bool false] 4)).alloc (.cells #[.int .i64 0] 3)).alloc (.cells #[.int .i64 0] 3)).alloc (.cells #[.int .i64 s] 3)).alloc (.cells #[.slice A E.length c] 24)).frozen? ⟨w.heap.size + 1 + 1 + 1, 0, none⟩ = false := by simp [go_sem]
  have c9 : (((((((w.alloc (.cells #[.func (.func 128) #[] #[q1, q2, q3]] 104)).alloc (.cells #[.int .i64 0] 3)).alloc (.cells #[.bool false] 4)).alloc (.cells #[.int .i64 0] 3)).alloc (.cells #[.int .i64 0] 3)).alloc (.cells #[.int .i64 s] 3)).alloc (.cells #[.slice A E.length c] 24)).cell? ⟨w.heap.size + 1 + 1 + 1 + 1, 0, none⟩ = some (.int .i64 0) := by simp [go_sem]
  have f9 : (((((((w.alloc (.cells #[.func (.func 128) #[] #[q1, q2, q3]] 104)).alloc (.cells #[.int .i64 0] 3)).alloc (.cells #[.bool false] 4)).alloc (.cells #[.int .i64 0] 3)).alloc (.cells #[.int .i64 0] 3)).alloc (.cells #[.int .i64 s] 3)).alloc (.cells #[.slice A E.length c] 24)).frozen? ⟨w.heap.size + 1 + 1 + 1 + 1, 0, none⟩ = false := by simp [go_sem]
  have c10 : (((((((w.alloc (.cells #[.func (.func 128) #[] #[q1, q2, q3]] 104)).alloc (.cells #[.int .i64 0] 3)).alloc (.cells #[.bool false] 4)).alloc (.cells #[.int .i64 0] 3)).alloc (.cells #[.int .i64 0] 3)).alloc (.cells #[.int .i64 s] 3)).alloc (.cells #[.slice A E.length c] 24)).cell? ⟨w.heap.size + 1 + 1 + 1 + 1 + 1, 0, none⟩ = some (.int .i64 s) := by simp [go_sem]
  have c11 : (((((((w.alloc (.cells #[.func (.func 128) #[] #[q1, q2, q3]] 104)).alloc (.cells #[.int .i64 0] 3)).alloc (.cells #[.bool false] 4)).alloc (.cells #[.int .i64 0] 3)).alloc (.cells #[.int .i64 0] 3)).alloc (.cells #[.int .i64 s] 3)).alloc (.cells #[.slice A E.length c] 24)).cell? ⟨w.heap.size + 1 + 1 + 1 + 1 + 1 + 1, 0, none⟩ = some (.slice A E.length c) := by simp [go_sem]
  have hz0 : (((((((w.alloc (.cells #[.func (.func 128) #[] #[q1, q2, q3]] 104)).alloc (.cells #[.int .i64 0] 3)).alloc (.cells #[.bool false] 4)).alloc (.cells #[.int .i64 0] 3)).alloc (.cells #[.int .i64 0] 3)).alloc (.cells #[.int .i64 s] 3)).alloc (.cells #[.slice A E.length c] 24)).heap.size = w.heap.size + 7 := by simp
  have hB0 : Below w.heap.size w (((((((w.alloc (.cells #[.func (.func 128) #[] #[q1, q2, q3]] 104)).alloc (.cells #[.int .i64 0] 3)).alloc (.cells #[.bool false] 4)).alloc (.cells #[.int .i64 0] 3)).alloc (.cells #[.int .i64 0] 3)).alloc (.cells #[.int .i64 s] 3)).alloc (.cells #[.slice A E.length c] 24)) := by
    repeat' (first | exact bl_refl _ | refine bl_alloc ?_ _)
  obtain ⟨W0, hW0⟩ : ∃ W0, W0 = (((((((w.alloc (.cells #[.func (.func 128) #[] #[q1, q2, q3]] 104)).alloc (.cells #[.int .i64 0] 3)).alloc (.cells #[.bool false] 4)).alloc (.cells #[.int .i64 0] 3)).alloc (.cells #[.int .i64 0] 3)).alloc (.cells #[.int .i64 s] 3)).alloc (.cells #[.slice A E.length c] 24)) := ⟨_, rfl⟩
  rw [← hW0] at c5 c6 f6 c7 f7 c8 f8 c9 f9 c10 c11 hz0 hB0 ⊢
  clear hW0
  have hEE : ∀ j, j < E.length → ∃ b o, A = some ⟨b, o, none⟩ ∧ b < w.heap.size ∧ W0.cell? ⟨b, o + j, none⟩ = some (.int .i64 (ng E j)) := fun j hj => by
    obtain ⟨b, o, e, hb, hc⟩ := hE.at_ hj
    have hbl : b < w.heap.size := World.block_lt_of_cell? w _ hc
    exact ⟨b, o, e, hbl, (hB0.cell (p := ⟨b, o + j, none⟩) hbl).trans hc⟩
  refine wpIn_rangeFunc_ownG (F := Fence.wide) (n := 5) rfl (by decide) (gf := 157) (lb := #[.pointer (some ⟨w.heap.size + 1 + 1 + 1 + 1 + 1, 0, none⟩), .pointer (some ⟨w.heap.size + 1 + 1 + 1 + 1 + 1 + 1, 0, none⟩)]) rfl trivial (enters_of Try.func157 (by kernel_rfl) rfl)
    (pieces_stops Fence.wide 4 trivial rfl (by decide) (w.heap.size + 1 + 1 + 1 + 1 + 1) (w.heap.size + 1 + 1 + 1 + 1 + 1 + 1) w.heap.size s A c E (by omega) W0 (by omega) (by omega) (by omega) c10 c11 hEE) belowK_t (belowK_b (by omega)) (Below.refl _ _) (fun _ => rfl)
    (fun pre W => (okP s E C pre ∧ (W.cell? ⟨w.heap.size, 0, none⟩ = some (.func (.func 128) #[] #[q1, q2, q3]) ∧ (W.cell? ⟨w.heap.size + 1, 0, none⟩ = some (.int .i64 0) ∧ W.frozen? ⟨w.heap.size + 1, 0, none⟩ = false) ∧ (W.cell? ⟨w.heap.size + 1 + 1, 0, none⟩ = some (.bool false) ∧ W.frozen? ⟨w.heap.size + 1 + 1, 0, none⟩ = false) ∧ (W.cell? ⟨w.heap.size + 1 + 1 + 1, 0, none⟩ = some (.int .i64 pre.length) ∧ W.frozen? ⟨w.heap.size + 1 + 1 + 1, 0, none⟩ = false) ∧ (W.cell? ⟨w.heap.size + 1 + 1 + 1 + 1, 0, none⟩ = some (.int .i64 (sumP s E C pre)) ∧ W.frozen? ⟨w.heap.size + 1 + 1 + 1 + 1, 0, none⟩ = false) ∧ w.heap.size + 7 ≤ W.heap.size)) ∧ Below w.heap.size w W)
    (fun c pre W => (c = .ret ∧ ¬ okP s E C pre ∧ W.cell? ⟨w.heap.size + 1, 0, none⟩ = some (.int .i64 0) ∧ W.cell? ⟨w.heap.size + 1 + 1, 0, none⟩ = some (.bool false)) ∧ Below w.heap.size w W)
    (OwnFrom.and (Own.from (fun s' A' B' row hs hg hr => ⟨hs.1, cell_kept hs.2.1 hg hr, ⟨cell_kept hs.2.2.1.1 hg hr, (frozen_kept hs.2.2.1.1 hg hr).trans hs.2.2.1.2⟩, ⟨cell_kept hs.2.2.2.1.1 hg hr, (frozen_kept hs.2.2.2.1.1 hg hr).trans hs.2.2.2.1.2⟩, ⟨cell_kept hs.2.2.2.2.1.1 hg hr, (frozen_kept hs.2.2.2.2.1.1 hg hr).trans hs.2.2.2.2.1.2⟩, ⟨cell_kept hs.2.2.2.2.2.1.1 hg hr, (frozen_kept hs.2.2.2.2.2.1.1 hg hr).trans hs.2.2.2.2.2.1.2⟩, Nat.le_trans hs.2.2.2.2.2.2 hg.size⟩) _) (ownFrom_below (Nat.le_refl _) (by omega)))
    (fun c => OwnFrom.and (Own.from (fun s' A' B' row hs hg hr => ⟨hs.1, hs.2.1, cell_kept hs.2.2.1 hg hr, cell_kept hs.2.2.2 hg hr⟩) _) (ownFrom_below (Nat.le_refl _) (by omega)))
    ⟨⟨okP_nil, c5, ⟨c6, f6⟩, ⟨c7, f7⟩, ⟨c8, f8⟩, ⟨c9, f9⟩, by omega⟩, hB0⟩
    (fun x => { tmps := #[.int .i64 s, .slice A E.length c, .func (.func 128) #[] #[q1, q2, q3], undef, undef, .pointer (some ⟨w.heap.size, 0, none⟩), .pointer (some ⟨w.heap.size + 1, 0, none⟩), .pointer (some ⟨w.heap.size + 1 + 1, 0, none⟩), .pointer (some ⟨w.heap.size + 1 + 1 + 1, 0, none⟩), .pointer (some ⟨w.heap.size + 1 + 1 + 1 + 1, 0, none⟩), .int .i64 (frm s E x.val), .int .i64 (ng E x.val), undef, undef, .int .i64 s, .slice A E.length c, .func (.func 157) #[] #[.pointer (some ⟨w.heap.size + 1 + 1 + 1 + 1 + 1, 0, none⟩), .pointer (some ⟨w.heap.size + 1 + 1 + 1 + 1 + 1 + 1, 0, none⟩)], .int .i64 (frm s E x.val), .int .i64 (ng E x.val), undef, undef, undef, undef, undef, undef, undef, undef, undef, undef, undef, undef, undef, undef, undef, undef], defers := [] }) ?assign ?body ?done ?stop
  case assign =>
    intro l x W K hK
    gi_wp2
    exact hK
  case body =>
    rintro l pre x W ⟨⟨hok, c5, ⟨c6, f6⟩, ⟨c7, f7⟩, ⟨c8, f8⟩, ⟨c9, f9⟩, hzW⟩, hB⟩ hlen
    have hd : (1 : Nat) ≤ 5 - 1 - 1 := by decide
    have HCx := HHC.out W hB pre.length x
    have hsb := sumP_bd (s := s) (E := E) (C := C) hM (l := pre)
    have hpl : pre.length ≤ 1048576 := by omega
    have hmb := hM pre.length (frm s E x.val) (ng E x.val)
    have YES := hide (fun (h : (C pre.length (frm s E x.val) (ng E x.val)).2 = true) => okP_snoc (x := x) hok h)
    have NO := hide (fun (h : (C pre.length (frm s E x.val) (ng E x.val)).2 = false) => okP_bad (s := s) (E := E) (C := C) (l := pre) (x := x) h)
    have SN := hide (sumP_snoc (s := s) (E := E) (C := C) (l := pre) (x := x))
    unfold cAt at SN
    obtain ⟨v, hv⟩ : ∃ v, v = (C pre.length (frm s E x.val) (ng E x.val)).1 := ⟨_, rfl⟩
    obtain ⟨fl, hfl⟩ : ∃ v, v = (C pre.length (frm s E x.val) (ng E x.val)).2 := ⟨_, rfl⟩
    rw [← hv, ← hfl] at HCx
    rw [← hv] at SN hmb
    rw [← hfl] at YES NO
    obtain ⟨m, hm⟩ : ∃ m, m = sumP s E C pre := ⟨_, rfl⟩
    rw [← hm] at c9 hsb SN
    have HCC := hide HCx
    have l1 : w.heap.size + 1 < W.heap.size := by omega
    have l2 : w.heap.size + 1 + 1 < W.heap.size := by omega
    have l3 : w.heap.size + 1 + 1 + 1 < W.heap.size := by omega
    have l4 : w.heap.size + 1 + 1 + 1 + 1 < W.heap.size := by omega
    have ws : IntKind.i64.wrap (m + v) = m + v := IntWalk.i64_in _ (by omega)
    have wn : IntKind.i64.wrap ((pre.length : Int) + 1) = (pre.length : Int) + 1 := IntWalk.i64_in _ (by omega)
    clear HCx hv hfl hm hok hsb hmb
    cases fl
    · have NO' := hide (NO.out rfl)
      clear YES NO SN
      gi_wp2_with (refine ⟨trivial, ?_⟩; gi_at_call 128; refine (CallsIn.inRound l (callsIn_wide.2 HCC.out)).mono ?_; rintro e W2 ⟨rfl, hb⟩; have c5 := keep_cell hb c5; have c6 := keep_cell hb c6; have c7 := keep_cell hb c7; have c8 := keep_cell hb c8; have c9 := keep_cell hb c9; have f6 := (hb.frozen (p := ⟨w.heap.size + 1, 0, none⟩) l1).trans f6; have f7 := (hb.frozen (p := ⟨w.heap.size + 1 + 1, 0, none⟩) l2).trans f7; have f8 := (hb.frozen (p := ⟨w.heap.size + 1 + 1 + 1, 0, none⟩) l3).trans f8; have f9 := (hb.frozen (p := ⟨w.heap.size + 1 + 1 + 1 + 1, 0, none⟩) l4).trans f9)
      exact ⟨(((keeps_below hb).trans (KeepsOthers.setCell _ _ _)).trans (KeepsOthers.setCell _ _ _)).from _, ⟨rfl, NO'.out, by simp [go_sem, c6, c7], by simp [go_sem, c6, c7]⟩, bl_set (bl_set (bl_call hb hB) (show w.heap.size ≤ w.heap.size + 1 by omega) _) (show w.heap.size ≤ w.heap.size + 1 + 1 by omega) _⟩
    · have OK' := hide (YES.out rfl)
      clear YES NO
      gi_wp2_with (refine ⟨trivial, ?_⟩; gi_at_call 128; refine (CallsIn.inRound l (callsIn_wide.2 HCC.out)).mono ?_; rintro e W2 ⟨rfl, hb⟩; have c5 := keep_cell hb c5; have c6 := keep_cell hb c6; have c7 := keep_cell hb c7; have c8 := keep_cell hb c8; have c9 := keep_cell hb c9; have f6 := (hb.frozen (p := ⟨w.heap.size + 1, 0, none⟩) l1).trans f6; have f7 := (hb.frozen (p := ⟨w.heap.size + 1 + 1, 0, none⟩) l2).trans f7; have f8 := (hb.frozen (p := ⟨w.heap.size + 1 + 1 + 1, 0, none⟩) l3).trans f8; have f9 := (hb.frozen (p := ⟨w.heap.size + 1 + 1 + 1 + 1, 0, none⟩) l4).trans f9)
      have hlen1 : (pre ++ [x]).length = pre.length + 1 := by simp
      have hzz := hb.size
      refine ⟨(((keeps_below hb).trans (KeepsOthers.setCell _ _ _)).trans (KeepsOthers.setCell _ _ _)).from _, ((hb.mono hB.size).setCell (p := ⟨w.heap.size + 1 + 1 + 1, 0, none⟩) (show w.heap.size ≤ w.heap.size + 1 + 1 + 1 by omega) _).setCell (p := ⟨w.heap.size + 1 + 1 + 1 + 1, 0, none⟩) (show w.heap.size ≤ w.heap.size + 1 + 1 + 1 + 1 by omega) _, ⟨OK'.out, by simp [go_sem, c5], ⟨by simp [go_sem, c6], by simp [go_sem, f6]⟩, ⟨by simp [go_sem, c7], by simp [go_sem, f7]⟩, ⟨by rw [hlen1]; simp [go_sem, c8, c9], by simp [go_sem, f8]⟩, ⟨by rw [SN.out]; simp [go_sem, c8, c9], by simp [go_sem, f9]⟩, by simp; omega⟩, bl_set (bl_set (bl_call hb hB) (show w.heap.size ≤ w.heap.size + 1 + 1 + 1 by omega) _) (show w.heap.size ≤ w.heap.size + 1 + 1 + 1 + 1 by omega) _⟩
  case done =>
    rintro D ys W hD rfl ⟨⟨hok, c5, ⟨c6, f6⟩, ⟨c7, f7⟩, ⟨c8, f8⟩, ⟨c9, f9⟩, hzW⟩, hB⟩ hK
    have hT := hide (toO_yes ((okP_pcs (Nat.le_refl _)).1 hok))
    rw [← sumP_pcs (Nat.le_refl _)] at hT
    obtain ⟨m, hm⟩ : ∃ m, m = sumP s E C (pcs E.length E.length) := ⟨_, rfl⟩
    rw [← hm] at c9 hT
    clear hm hok
    gi_wp2
    have hp7 : (W.setCell ⟨w.heap.size + 1, 0, none⟩ (.int .i64 m)).cell? ⟨w.heap.size + 1 + 1, 0, none⟩ = some (.bool false) := by simp [go_sem, c7]
    have hK' := ((KeepsOthers.setCell W ⟨w.heap.size + 1, 0, none⟩ (.int .i64 m)).trans (KeepsOthers.setCell _ ⟨w.heap.size + 1 + 1, 0, none⟩ (.bool true))).same D _ hK rfl
    refine ⟨by simp, .inl ⟨_, _, rfl, run_takeDeferred hK', ?_⟩⟩
    have a6 : ((W.setCell ⟨w.heap.size + 1, 0, none⟩ (.int .i64 m)).setCell ⟨w.heap.size + 1 + 1, 0, none⟩ (.bool true)).cell? ⟨w.heap.size + 1, 0, none⟩ = some (.int .i64 m) := by simp [go_sem, c6]
    have a7 : ((W.setCell ⟨w.heap.size + 1, 0, none⟩ (.int .i64 m)).setCell ⟨w.heap.size + 1 + 1, 0, none⟩ (.bool true)).cell? ⟨w.heap.size + 1 + 1, 0, none⟩ = some (.bool true) := by simp [go_sem, c7]
    have h6 := cell_kept a6 (grownBy_putObj' _ D (.deferred none)) (fun r e => by cases e; exact ⟨_, hK', rfl⟩)
    have h7 := cell_kept a7 (grownBy_putObj' _ D (.deferred none)) (fun r e => by cases e; exact ⟨_, hK', rfl⟩)
    refine ⟨.tuple #[.int .i64 m, .bool true], ?_, by rw [hT.out], (bl_set (bl_set hB (show w.heap.size ≤ w.heap.size + 1 by omega) _) (show w.heap.size ≤ w.heap.size + 1 + 1 by omega) _).trans (belowK_b (w := W0) (by omega) _ D _ _ hD hK' rfl rfl)⟩
    simp [results, Try.f127, go_sem, h6, h7]
  case stop =>
    rintro D c pre W hD ⟨k, hk, rfl⟩ ⟨⟨rfl, hno, c6, c7⟩, hB⟩ hK
    have hT := hide (toO_no (s := s) (E := E) (C := C) (fun h => hno ((okP_pcs hk).2 (fun j hj => h j (by omega)))))
    clear hno
    gi_wp2
    refine ⟨by simp, .inl ⟨_, _, rfl, run_takeDeferred hK, ?_⟩⟩
    have h6 := cell_kept c6 (grownBy_putObj' _ D (.deferred none)) (fun r e => by cases e; exact ⟨_, hK, rfl⟩)
    have h7 := cell_kept c7 (grownBy_putObj' _ D (.deferred none)) (fun r e => by cases e; exact ⟨_, hK, rfl⟩)
    refine ⟨.tuple #[.int .i64 0, .bool false], ?_, by rw [hT.out], hB.trans (belowK_b (w := W0) (by omega) W D _ _ hD hK rfl rfl)⟩
    simp [results, Try.f127, go_sem, h6, h7]
end Go.Proofs.Ytafddofajfcffaa

/- Whether there are all lines between given breaks. -/
namespace Go.Proofs.Ytafddofajfcffaa
open Go.ChangeShapes Go.WideShapes Go.ChangeAt Go.RowKit Go.Shelf
set_option linter.unusedVariables false
set_option linter.unusedSimpArgs false
attribute [local go_sem] Oper.semAt_some

set_option maxRecDepth 100000 in
set_option maxHeartbeats 4000000 in
theorem total_div (w : World) (A : Option Addr) (c : Nat) (E : List Int) (hE : IL w A E.length E) (hl : E.length ≤ 1048576) (s : Int) (C : Nat → Int → Int → Int × Bool) (q1 : Value) (hM : ∀ j p q, -8000000000 ≤ (C j p q).1 ∧ (C j p q).1 ≤ 8000000000)
    (HC : ∀ (u : World), Below w.heap.size w u → ∀ (i : Nat) (x : Fin E.length), Calls Try.prog 125 #[.int .i64 i, .int .i64 (frm s E x.val), .int .i64 (ng E x.val), q1] u fun e u' => e = .returned (.tuple #[.int .i64 (C i (frm s E x.val) (ng E x.val)).1, .bool (C i (frm s E x.val) (ng E x.val)).2]) ∧ Below u.heap.size u u') :
    Calls Try.prog 127 #[.int .i64 s, .slice A E.length c, .func (.func 125) #[] #[q1]] w fun e w' => e = .returned (.tuple #[.int .i64 (toO s E C).1, .bool (toO s E C).2]) ∧ Below w.heap.size w w' := by
  have HHC := hide HC
  clear HC
  refine (callsIn_wide (n := 5)).1 ?_
  refine callsIn_of_wp_marks Try.func127 rfl trivial ?_ rfl
  simp only [Try.ntmps127, List.size_toArray, List.length_cons, List.length_nil, Nat.reduceAdd, Nat.reduceSub, Array.replicate_succ, Array.replicate_zero, List.push_toArray, List.append_toArray, List.nil_append, List.cons_append]
  gi_wp2_with (refine ⟨trivial, ?_⟩; gi_at_call 126; refine (callsIn_wide.2 (piecesOf_i s A E.length c _)).mono ?_; rintro e w' ⟨rfl, rfl⟩)
  have c5 : (((((((w.alloc (.cells #[.func (.func 125) #[] #[q1]] 104)).alloc (.cells #[.int .i64 0] 3)).alloc (.cells #[.bool false] 4)).alloc (.cells #[.int .i64 0] 3)).alloc (.cells #[.int .i64 0] 3)).alloc (.cells #[.int .i64 s] 3)).alloc (.cells #[.slice A E.length c] 24)).cell? ⟨w.heap.size, 0, none⟩ = some (.func (.func 125) #[] #[q1]) := by simp [go_sem]
  have c6 : (((((((w.alloc (.cells #[.func (.func 125) #[] #[q1]] 104)).alloc (.cells #[.int .i64 0] 3)).alloc (.cells #[.bool false] 4)).alloc (.cells #[.int .i64 0] 3)).alloc (.cells #[.int .i64 0] 3)).alloc (.cells #[.int .i64 s] 3)).alloc (.cells #[.slice A E.length c] 24)).cell? ⟨w.heap.size + 1, 0, none⟩ = some (.int .i64 0) := by simp [go_sem]
  have f6 : (((((((w.alloc (.cells #[.func (.func 125) #[] #[q1]] 104)).alloc (.cells #[.int .i64 0] 3)).alloc (.cells #[.bool false] 4)).alloc (.cells #[.int .i64 0] 3)).alloc (.cells #[.int .i64 0] 3)).alloc (.cells #[.int .i64 s] 3)).alloc (.cells #[.slice A E.length c] 24)).frozen? ⟨w.heap.size + 1, 0, none⟩ = false := by simp [go_sem]
  have c7 : (((((((w.alloc (.cells #[.func (.func 125) #[] #[q1]] 104)).alloc (.cells #[.int .i64 0] 3)).alloc (.cells #[.bool false] 4)).alloc (.cells #[.int .i64 0] 3)).alloc (.cells #[.int .i64 0] 3)).alloc (.cells #[.int .i64 s] 3)).alloc (.cells #[.slice A E.length c] 24)).cell? ⟨w.heap.size + 1 + 1, 0, none⟩ = some (.bool false) := by simp [go_sem]
  have f7 : (((((((w.alloc (.cells #[.func (.func 125) #[] #[q1]] 104)).alloc (.cells #[.int .i64 0] 3)).alloc (.cells #[.bool false] 4)).alloc (.cells #[.int .i64 0] 3)).alloc (.cells #[.int .i64 0] 3)).alloc (.cells #[.int .i64 s] 3)).alloc (.cells #[.slice A E.length c] 24)).frozen? ⟨w.heap.size + 1 + 1, 0, none⟩ = false := by simp [go_sem]
  have c8 : (((((((w.alloc (.cells #[.func (.func 125) #[] #[q1]] 104)).alloc (.cells #[.int .i64 0] 3)).alloc (.cells #[.bool false] 4)).alloc (.cells #[.int .i64 0] 3)).alloc (.cells #[.int .i64 0] 3)).alloc (.cells #[.int .i64 s] 3)).alloc (.cells #[.slice A E.length c] 24)).cell? ⟨w.heap.size + 1 + 1 + 1, 0, none⟩ = some (.int .i64 0) := by simp [go_sem]
  have f8 : (((((((w.alloc (.cells #[.func (.func 125) #[] #[q1]] 104)).alloc (.cells #[.int .i64 0] 3)).alloc (.cells #[.bool false] 4)).alloc (.cells #[.int .i64 0] 3)).alloc (.cells #[.int .i64 0] 3)).alloc (.cells #[.int .i64 s] 3)).alloc (.cells #[.slice A E.length c] 24)).frozen? ⟨w.heap.size + 1 + 1 + 1, 0, none⟩ = false := by simp [go_sem]
  have c9 : (((((((w.alloc (.cells #[.func (.func 125) #[] #[q1]] 104)).alloc (.cells #[.int .i64 0] 3)).alloc (.cells #[.bool false] 4)).alloc (.cells #[.int .i64 0] 3)).alloc (.cells #[.int .i64 0] 3)).alloc (.cells #[.int .i64 s] 3)).alloc (.cells #[.slice A E.length c] 24)).cell? ⟨w.heap.size + 1 + 1 + 1 + 1, 0, none⟩ = some (.int .i64 0) := by simp [go_sem]
  have f9 : (((((((w.alloc (.cells #[.func (.func 125) #[] #[q1]] 104)).alloc (.cells #[.int .i64 0] 3)).alloc (.cells #[.bool false] 4)).alloc (.cells #[.int .i64 0] 3)).alloc (.cells #[.int .i64 0] 3)).alloc (.cells #[.int .i64 s] 3)).alloc (.cells #[.slice A E.length c] 24)).frozen? ⟨w.heap.size + 1 + 1 + 1 + 1, 0, none⟩ = false := by simp [go_sem]
  have c10 : (((((((w.alloc (.cells #[.func (.func 125) #[] #[q1]] 104)).alloc (.cells #[.int .i64 0] 3)).alloc (.cells #[.bool false] 4)).alloc (.cells #[.int .i64 0] 3)).alloc (.cells #[.int .i64 0] 3)).alloc (.cells #[.int .i64 s] 3)).alloc (.cells #[.slice A E.length c] 24)).cell? ⟨w.heap.size + 1 + 1 + 1 + 1 + 1, 0, none⟩ = some (.int .i64 s) := by simp [go_sem]
  have c11 : (((((((w.alloc (.cells #[.func (.func 125) #[] #[q1]] 104)).alloc (.cells #[.int .i64 0] 3)).alloc (.cells #[.bool false] 4)).alloc (.cells #[.int .i64 0] 3)).alloc (.cells #[.int .i64 0] 3)).alloc (.cells #[.int .i64 s] 3)).alloc (.cells #[.slice A E.length c] 24)).cell? ⟨w.heap.size + 1 + 1 + 1 + 1 + 1 + 1, 0, none⟩ = some (.slice A E.length c) := by simp [go_sem]
  have hz0 : (((((((w.alloc (.cells #[.func (.func 125) #[] #[q1]] 104)).alloc (.cells #[.int .i64 0] 3)).alloc (.cells #[.bool false] 4)).alloc (.cells #[.int .i64 0] 3)).alloc (.cells #[.int .i64 0] 3)).alloc (.cells #[.int .i64 s] 3)).alloc (.cells #[.slice A E.length c] 24)).heap.size = w.heap.size + 7 := by simp
  have hB0 : Below w.heap.size w (((((((w.alloc (.cells #[.func (.func 125) #[] #[q1]] 104)).alloc (.cells #[.int .i64 0] 3)).alloc (.cells #[.bool false] 4)).alloc (.cells #[.int .i64 0] 3)).alloc (.cells #[.int .i64 0] 3)).alloc (.cells #[.int .i64 s] 3)).alloc (.cells #[.slice A E.length c] 24)) := by
    repeat' (first | exact bl_refl _ | refine bl_alloc ?_ _)
  obtain ⟨W0, hW0⟩ : ∃ W0, W0 = (((((((w.alloc (.cells #[.func (.func 125) #[] #[q1]] 104)).alloc (.cells #[.int .i64 0] 3)).alloc (.cells #[.bool false] 4)).alloc (.cells #[.int .i64 0] 3)).alloc (.cells #[.int .i64 0] 3)).alloc (.cells #[.int .i64 s] 3)).alloc (.cells #[.slice A E.length c] 24)) := ⟨_, rfl⟩
  rw [← hW0] at c5 c6 f6 c7 f7 c8 f8 c9 f9 c10 c11 hz0 hB0 ⊢
  clear hW0
  have hEE : ∀ j, j < E.length → ∃ b o, A = some ⟨b, o, none⟩ ∧ b < w.heap.size ∧ W0.cell? ⟨b, o + j, none⟩ = some (.int .i64 (ng E j)) := fun j hj => by
    obtain ⟨b, o, e, hb, hc⟩ := hE.at_ hj
    have hbl : b < w.heap.size := World.block_lt_of_cell? w _ hc
    exact ⟨b, o, e, hbl, (hB0.cell (p := ⟨b, o + j, none⟩) hbl).trans hc⟩
  refine wpIn_rangeFunc_ownG (F := Fence.wide) (n := 5) rfl (by decide) (gf := 157) (lb := #[.pointer (some ⟨w.heap.size + 1 + 1 + 1 + 1 + 1, 0, none⟩), .pointer (some ⟨w.heap.size + 1 + 1 + 1 + 1 + 1 + 1, 0, none⟩)]) rfl trivial (enters_of Try.func157 (by kernel_rfl) rfl)
    (pieces_stops Fence.wide 4 trivial rfl (by decide) (w.heap.size + 1 + 1 + 1 + 1 + 1) (w.heap.size + 1 + 1 + 1 + 1 + 1 + 1) w.heap.size s A c E (by omega) W0 (by omega) (by omega) (by omega) c10 c11 hEE) belowK_t (belowK_b (by omega)) (Below.refl _ _) (fun _ => rfl)
    (fun pre W => (okP s E C pre ∧ (W.cell? ⟨w.heap.size, 0, none⟩ = some (.func (.func 125) #[] #[q1]) ∧ (W.cell? ⟨w.heap.size + 1, 0, none⟩ = some (.int .i64 0) ∧ W.frozen? ⟨w.heap.size + 1, 0, none⟩ = false) ∧ (W.cell? ⟨w.heap.size + 1 + 1, 0, none⟩ = some (.bool false) ∧ W.frozen? ⟨w.heap.size + 1 + 1, 0, none⟩ = false) ∧ (W.cell? ⟨w.heap.size + 1 + 1 + 1, 0, none⟩ = some (.int .i64 pre.length) ∧ W.frozen? ⟨w.heap.size + 1 + 1 + 1, 0, none⟩ = false) ∧ (W.cell? ⟨w.heap.size + 1 + 1 + 1 + 1, 0, none⟩ = some (.int .i64 (sumP s E C pre)) ∧ W.frozen? ⟨w.heap.size + 1 + 1 + 1 + 1, 0, none⟩ = false) ∧ w.heap.size + 7 ≤ W.heap.size)) ∧ Below w.heap.size w W)
    (fun c pre W => (c = .ret ∧ ¬ okP s E C pre ∧ W.cell? ⟨w.heap.size + 1, 0, none⟩ = some (.int .i64 0) ∧ W.cell? ⟨w.heap.size + 1 + 1, 0, none⟩ = some (.bool false)) ∧ Below w.heap.size w W)
    (OwnFrom.and (Own.from (fun s' A' B' row hs hg hr => ⟨hs.1, cell_kept hs.2.1 hg hr, ⟨cell_kept hs.2.2.1.1 hg hr, (frozen_kept hs.2.2.1.1 hg hr).trans hs.2.2.1.2⟩, ⟨cell_kept hs.2.2.2.1.1 hg hr, (frozen_kept hs.2.2.2.1.1 hg hr).trans hs.2.2.2.1.2⟩, ⟨cell_kept hs.2.2.2.2.1.1 hg hr, (frozen_kept hs.2.2.2.2.1.1 hg hr).trans hs.2.2.2.2.1.2⟩, ⟨cell_kept hs.2.2.2.2.2.1.1 hg hr, (frozen_kept hs.2.2.2.2.2.1.1 hg hr).trans hs.2.2.2.2.2.1.2⟩, Nat.le_trans hs.2.2.2.2.2.2 hg.size⟩) _) (ownFrom_below (Nat.le_refl _) (by omega)))
    (fun c => OwnFrom.and (Own.from (fun s' A' B' row hs hg hr => ⟨hs.1, hs.2.1, cell_kept hs.2.2.1 hg hr, cell_kept hs.2.2.2 hg hr⟩) _) (ownFrom_below (Nat.le_refl _) (by omega)))
    ⟨⟨okP_nil, c5, ⟨c6, f6⟩, ⟨c7, f7⟩, ⟨c8, f8⟩, ⟨c9, f9⟩, by omega⟩, hB0⟩
    (fun x => { tmps := #[.int .i64 s, .slice A E.length c, .func (.func 125) #[] #[q1], undef, undef, .pointer (some ⟨w.heap.size, 0, none⟩), .pointer (some ⟨w.heap.size + 1, 0, none⟩), .pointer (some ⟨w.heap.size + 1 + 1, 0, none⟩), .pointer (some ⟨w.heap.size + 1 + 1 + 1, 0, none⟩), .pointer (some ⟨w.heap.size + 1 + 1 + 1 + 1, 0, none⟩), .int .i64 (frm s E x.val), .int .i64 (ng E x.val), undef, undef, .int .i64 s, .slice A E.length c, .func (.func 157) #[] #[.pointer (some ⟨w.heap.size + 1 + 1 + 1 + 1 + 1, 0, none⟩), .pointer (some ⟨w.heap.size + 1 + 1 + 1 + 1 + 1 + 1, 0, none⟩)], .int .i64 (frm s E x.val), .int .i64 (ng E x.val), undef, undef, undef, undef, undef, undef, undef, undef, undef, undef, undef, undef, undef, undef, undef, undef], defers := [] }) ?assign ?body ?done ?stop
  case assign =>
    intro l x W K hK
    gi_wp2
    exact hK
  case body =>
    rintro l pre x W ⟨⟨hok, c5, ⟨c6, f6⟩, ⟨c7, f7⟩, ⟨c8, f8⟩, ⟨c9, f9⟩, hzW⟩, hB⟩ hlen
    have hd : (1 : Nat) ≤ 5 - 1 - 1 := by decide
    have HCx := HHC.out W hB pre.length x
    have hsb := sumP_bd (s := s) (E := E) (C := C) hM (l := pre)
    have hpl : pre.length ≤ 1048576 := by omega
    have hmb := hM pre.length (frm s E x.val) (ng E x.val)
    have YES := hide (fun (h : (C pre.length (frm s E x.val) (ng E x.val)).2 = true) => okP_snoc (x := x) hok h)
    have NO := hide (fun (h : (C pre.length (frm s E x.val) (ng E x.val)).2 = false) => okP_bad (s := s) (E := E) (C := C) (l := pre) (x := x) h)
    have SN := hide (sumP_snoc (s := s) (E := E) (C := C) (l := pre) (x := x))
    unfold cAt at SN
    obtain ⟨v, hv⟩ : ∃ v, v = (C pre.length (frm s E x.val) (ng E x.val)).1 := ⟨_, rfl⟩
    obtain ⟨fl, hfl⟩ : ∃ v, v = (C pre.length (frm s E x.val) (ng E x.val)).2 := ⟨_, rfl⟩
    rw [← hv, ← hfl] at HCx
    rw [← hv] at SN hmb
    rw [← hfl] at YES NO
    obtain ⟨m, hm⟩ : ∃ m, m = sumP s E C pre := ⟨_, rfl⟩
    rw [← hm] at c9 hsb SN
    have HCC := hide HCx
    have l1 : w.heap.size + 1 < W.heap.size := by omega
    have l2 : w.heap.size + 1 + 1 < W.heap.size := by omega
    have l3 : w.heap.size + 1 + 1 + 1 < W.heap.size := by omega
    have l4 : w.heap.size + 1 + 1 + 1 + 1 < W.heap.size := by omega
    have ws : IntKind.i64.wrap (m + v) = m + v := IntWalk.i64_in _ (by omega)
    have wn : IntKind.i64.wrap ((pre.length : Int) + 1) = (pre.length : Int) + 1 := IntWalk.i64_in _ (by omega)
    clear HCx hv hfl hm hok hsb hmb
    cases fl
    · have NO' := hide (NO.out rfl)
      clear YES NO SN
      gi_wp2_with (refine ⟨trivial, ?_⟩; gi_at_call 125; refine (CallsIn.inRound l (callsIn_wide.2 HCC.out)).mono ?_; rintro e W2 ⟨rfl, hb⟩; have c5 := keep_cell hb c5; have c6 := keep_cell hb c6; have c7 := keep_cell hb c7; have c8 := keep_cell hb c8; have c9 := keep_cell hb c9; have f6 := (hb.frozen (p := ⟨w.heap.size + 1, 0, none⟩) l1).trans f6; have f7 := (hb.frozen (p := ⟨w.heap.size + 1 + 1, 0, none⟩) l2).trans f7; have f8 := (hb.frozen (p := ⟨w.heap.size + 1 + 1 + 1, 0, none⟩) l3).trans f8; have f9 := (hb.frozen (p := ⟨w.heap.size + 1 + 1 + 1 + 1, 0, none⟩) l4).trans f9)
      exact ⟨(((keeps_below hb).trans (KeepsOthers.setCell _ _ _)).trans (KeepsOthers.setCell _ _ _)).from _, ⟨rfl, NO'.out, by simp [go_sem, c6, c7], by simp [go_sem, c6, c7]⟩, bl_set (bl_set (bl_call hb hB) (show w.heap.size ≤ w.heap.size + 1 by omega) _) (show w.heap.size ≤ w.heap.size + 1 + 1 by omega) _⟩
    · have OK' := hide (YES.out rfl)
      clear YES NO
      gi_wp2_with (refine ⟨trivial, ?_⟩; gi_at_call 125; refine (CallsIn.inRound l (callsIn_wide.2 HCC.out)).mono ?_; rintro e W2 ⟨rfl, hb⟩; have c5 := keep_cell hb c5; have c6 := keep_cell hb c6; have c7 := keep_cell hb c7; have c8 := keep_cell hb c8; have c9 := keep_cell hb c9; have f6 := (hb.frozen (p := ⟨w.heap.size + 1, 0, none⟩) l1).trans f6; have f7 := (hb.frozen (p := ⟨w.heap.size + 1 + 1, 0, none⟩) l2).trans f7; have f8 := (hb.frozen (p := ⟨w.heap.size + 1 + 1 + 1, 0, none⟩) l3).trans f8; have f9 := (hb.frozen (p := ⟨w.heap.size + 1 + 1 + 1 + 1, 0, none⟩) l4).trans f9)
      have hlen1 : (pre ++ [x]).length = pre.length + 1 := by simp
      have hzz := hb.size
      refine ⟨(((keeps_below hb).trans (KeepsOthers.setCell _ _ _)).trans (KeepsOthers.setCell _ _ _)).from _, ((hb.mono hB.size).setCell (p := ⟨w.heap.size + 1 + 1 + 1, 0, none⟩) (show w.heap.size ≤ w.heap.size + 1 + 1 + 1 by omega) _).setCell (p := ⟨w.heap.size + 1 + 1 + 1 + 1, 0, none⟩) (show w.heap.size ≤ w.heap.size + 1 + 1 + 1 + 1 by omega) _, ⟨OK'.out, by simp [go_sem, c5], ⟨by simp [go_sem, c6], by simp [go_sem, f6]⟩, ⟨by simp [go_sem, c7], by simp [go_sem, f7]⟩, ⟨by rw [hlen1]; simp [go_sem, c8, c9], by simp [go_sem, f8]⟩, ⟨by rw [SN.out]; simp [go_sem, c8, c9], by simp [go_sem, f9]⟩, by simp; omega⟩, bl_set (bl_set (bl_call hb hB) (show w.heap.size ≤ w.heap.size + 1 + 1 + 1 by omega) _) (show w.heap.size ≤ w.heap.size + 1 + 1 + 1 + 1 by omega) _⟩
  case done =>
    rintro D ys W hD rfl ⟨⟨hok, c5, ⟨c6, f6⟩, ⟨c7, f7⟩, ⟨c8, f8⟩, ⟨c9, f9⟩, hzW⟩, hB⟩ hK
    have hT := hide (toO_yes ((okP_pcs (Nat.le_refl _)).1 hok))
    rw [← sumP_pcs (Nat.le_refl _)] at hT
    obtain ⟨m, hm⟩ : ∃ m, m = sumP s E C (pcs E.length E.length) := ⟨_, rfl⟩
    rw [← hm] at c9 hT
    clear hm hok
    gi_wp2
    have hp7 : (W.setCell ⟨w.heap.size + 1, 0, none⟩ (.int .i64 m)).cell? ⟨w.heap.size + 1 + 1, 0, none⟩ = some (.bool false) := by simp [go_sem, c7]
    have hK' := ((KeepsOthers.setCell W ⟨w.heap.size + 1, 0, none⟩ (.int .i64 m)).trans (KeepsOthers.setCell _ ⟨w.heap.size + 1 + 1, 0, none⟩ (.bool true))).same D _ hK rfl
    refine ⟨by simp, .inl ⟨_, _, rfl, run_takeDeferred hK', ?_⟩⟩
    have a6 : ((W.setCell ⟨w.heap.size + 1, 0, none⟩ (.int .i64 m)).setCell ⟨w.heap.size + 1 + 1, 0, none⟩ (.bool true)).cell? ⟨w.heap.size + 1, 0, none⟩ = some (.int .i64 m) := by simp [go_sem, c6]
    have a7 : ((W.setCell ⟨w.heap.size + 1, 0, none⟩ (.int .i64 m)).setCell ⟨w.heap.size + 1 + 1, 0, none⟩ (.bool true)).cell? ⟨w.heap.size + 1 + 1, 0, none⟩ = some (.bool true) := by simp [go_sem, c7]
    have h6 := cell_kept a6 (grownBy_putObj' _ D (.deferred none)) (fun r e => by cases e; exact ⟨_, hK', rfl⟩)
    have h7 := cell_kept a7 (grownBy_putObj' _ D (.deferred none)) (fun r e => by cases e; exact ⟨_, hK', rfl⟩)
    refine ⟨.tuple #[.int .i64 m, .bool true], ?_, by rw [hT.out], (bl_set (bl_set hB (show w.heap.size ≤ w.heap.size + 1 by omega) _) (show w.heap.size ≤ w.heap.size + 1 + 1 by omega) _).trans (belowK_b (w := W0) (by omega) _ D _ _ hD hK' rfl rfl)⟩
    simp [results, Try.f127, go_sem, h6, h7]
  case stop =>
    rintro D c pre W hD ⟨k, hk, rfl⟩ ⟨⟨rfl, hno, c6, c7⟩, hB⟩ hK
    have hT := hide (toO_no (s := s) (E := E) (C := C) (fun h => hno ((okP_pcs hk).2 (fun j hj => h j (by omega)))))
    clear hno
    gi_wp2
    refine ⟨by simp, .inl ⟨_, _, rfl, run_takeDeferred hK, ?_⟩⟩
    have h6 := cell_kept c6 (grownBy_putObj' _ D (.deferred none)) (fun r e => by cases e; exact ⟨_, hK, rfl⟩)
    have h7 := cell_kept c7 (grownBy_putObj' _ D (.deferred none)) (fun r e => by cases e; exact ⟨_, hK, rfl⟩)
    refine ⟨.tuple #[.int .i64 0, .bool false], ?_, by rw [hT.out], hB.trans (belowK_b (w := W0) (by omega) W D _ _ hD hK rfl rfl)⟩
    simp [results, Try.f127, go_sem, h6, h7]
end Go.Proofs.Ytafddofajfcffaa
