/- Several texts of one claim, one behind the other. -/
import Derived.RangeFuncWrites
import Derived.RangeFuncBox
import Derived.RangeFuncLeaves
import Derived.RangeFuncBound
import Derived.RangeFuncCalls
import Derived.Shelf.Abstract
import Derived.Test.YtafddofajfcffaaBase
import Derived.Test.YtafddofajfcffaaFlat
import Derived.WalkKit
import Derived.OwnWalkIn
import Derived.TacticsInMore
import Derived.LoopNIn
import Derived.LoopIn
import Derived.Test.YtafddofajfcffaaInts
import Derived.Lib.BufferOwn
/- A range over a function whose values come in a known order and whose body always ends in the ordinary way: the body may assume which value it is handed. It speaks of no program. -/
namespace Go.Proofs.Ytafddofajfcffaa
open Go.ChangeShapes Go.WideShapes Go.ChangeAt Go.RowKit Go.Shelf
set_option linter.unusedVariables false

/-- The iterator hands on N values, the k-th of which is 'enc k'. -/
def SeqN (F : Fence) (n : Nat) (P : Program) (gf : Nat) (lb : Array Value) (enc : Nat → Array Value) (Kp : World → World → Prop) (N : Nat) (w : World) : Prop :=
  ∀ (l : Nat) (J : Nat → World → Prop) (W : World), Below w.heap.size w W → AbidesFrom W.heap.size J →
    (∀ k W1, k < N → J k W1 → YieldAt F (n - 1) P l (enc k) W1 fun e W' => e = .returned (.bool true) ∧ J (k + 1) W' ∧ Kp W1 W') → J 0 W →
    CallsIn F n P gf (#[.func (.yield l) #[] #[]] ++ lb) W fun e W' => (∃ v, e = .returned v) ∧ J N W'
/-- What the body of a round leaves. -/
def BdN (B : Nat) (Kp : World → World → Prop) (I : World → Prop) (W : World) : Exit → Act → World → Prop
  | .normal, _, W' => KeepsFrom B W W' ∧ Kp W W' ∧ I W'
  | _, _, _ => False
theorem range_seq {F : Fence} {n : Nat} {P : Program} {g : Operand} {ps : Array Tmp} {assign body : Code} {Q : Exit → Act → World → Prop} {a : Act} {w : World}
    (hro : F.round = none) (h1 : 1 ≤ n) {gf : Nat} {lb : Array Value} (hg : a.eval g = .func (.func gf) #[] lb) (hFg : F.fn gf) (eg : ∀ args w, (callFunc gf args).run P w = .ok (.enter gf args) w)
    {enc : Nat → Array Value} {Kp : World → World → Prop} {N : Nat} {w0 : World} (hseq : SeqN F (n - 1) P gf lb enc Kp N w0)
    (hKt : ∀ {A B C : World}, Kp A B → Kp B C → Kp A C) (hKb : ∀ (W : World) (l : Nat) (o o' : Obj), w.heap.size ≤ l → W.heap[l]? = some o → o.isCells = false → o.isWalk = false → Kp W (W.putObj l o'))
    (hb0 : Below w0.heap.size w0 w) (hps : ∀ k, (enc k).size = ps.size) (I : Nat → World → Prop) (hI : OwnFrom w.heap.size I) (h0 : I 0 w) (fr : Nat → Act)
    (hassign : ∀ (l k : Nat) (W : World) (K : Act → World → Prop), k < N → K (fr k) W →
      assign.wpIn (F.inRound l) (n - 1 - 1) P (Exit.then K (fun _ _ _ => False)) { tmps := (ps.zip (enc k)).foldl (fun t (p, v) => t.setIfInBounds p v) a.tmps, defers := [] } W)
    (hbody : ∀ (l k : Nat) (W : World), k < N → I k W → body.wpIn (F.inRound l) (n - 1 - 1) P (BdN w.heap.size Kp (I (k + 1)) W) (fr k) W)
    (hdone : ∀ (D : Nat) (W : World), w.heap.size ≤ D → I N W → W.heap[D]? = some (.deferred (some [])) → Q .normal { a with defers := { target := .collected D, args := #[] } :: a.defers } W) :
    (Code.rangeFunc g ps assign body).wpIn F n P Q a w := by
  refine wpIn_rangeFunc fun fn hfn => ?_
  rw [hro]
  -- the loop's record, in its states
  obtain ⟨R, hR⟩ : ∃ R : LoopState → Loop, R = fun s => { state := s, pending := none, fn, tmps := a.tmps, params := ps, assign, body, defers := w.heap.size } := ⟨_, rfl⟩
  have Rp : ∀ s, (R s).pending = none := fun s => by rw [hR]
  have Rs : ∀ s, (R s).state = s := fun s => by rw [hR]
  have Rb : ∀ s t, { R s with state := t } = R t := fun s t => by rw [hR]
  obtain ⟨V, hV⟩ : ∃ V, V = (w.alloc (.deferred (some []))).alloc (.loop (R .ready)) := ⟨_, rfl⟩
  have hVL : V.heap[w.heap.size + 1]? = some (.loop (R .ready)) := by
    rw [hV]
    simpa using World.alloc_heap_new (w.alloc (.deferred (some []))) (.loop (R .ready))
  have hVD : V.heap[w.heap.size]? = some (.deferred (some [])) := by
    rw [hV]
    exact (Below.heap_alloc _ _ _ (by simp)).trans (World.alloc_heap_new w _)
  have hVz : V.heap.size = w.heap.size + 2 := by rw [hV]; simp
  have hVI : I 0 V := by rw [hV]; exact hI.alloc _ (hI.alloc _ h0)
  have hVB : Below w0.heap.size w0 V := by
    rw [hV]
    exact bl_alloc (bl_alloc hb0 _) _
  refine ⟨w.heap.size + 1, [{ target := .collected w.heap.size, args := #[] }], V, { target := .fn (.func gf) lb, args := #[.func (.yield (w.heap.size + 1)) #[] #[]] }, V, gf, #[.func (.yield (w.heap.size + 1)) #[] #[]] ++ lb, V, ?_, ?_, ?_, ?_, fun _ => h1, ?_⟩
  · rw [hV, hR]; exact run_enterLoop_outer _ _ _ _ _
  · simp only [resolve, hg]
    simp [go_sem]
  · intro f hf
    simp [Target.leads] at hf
    subst hf
    exact hFg
  · simp [invoke, go_sem, eg]
  -- what stands between two rounds
  have far : ∀ {A B : World} {row : Option Nat} {o : Obj} {m : Nat}, A.grownBy B row → (∀ r, row = some r → V.heap.size ≤ r ∧ ∃ o : Obj, A.heap[r]? = some o ∧ o.isWalk = true) → m < V.heap.size → A.heap[m]? = some o → B.heap[m]? = some o := fun hg hr hm ho =>
    (hg.block _ (Array.getElem?_eq_some_iff.1 ho).1 (fun e => by have := (hr _ e.symm).1; omega)).trans ho
  refine (hseq (w.heap.size + 1) (fun k W => I k W ∧ W.heap[w.heap.size + 1]? = some (.loop (R .ready)) ∧ W.heap[w.heap.size]? = some (.deferred (some []))) V hVB (fun k A B row h hg hr => ?_) (fun k W hk h => ?_) ⟨hVI, hVL, hVD⟩).mono ?_
  · exact ⟨hI k A B row h.1 hg (fun r e => by obtain ⟨q1, o, q2, q3⟩ := hr r e; exact ⟨by omega, o, q2, Obj.not_cells_of_walk q3⟩), far hg hr (by omega) h.2.1, far hg hr (by omega) h.2.2⟩
  · obtain ⟨hi, hl, hd⟩ := h
    have hlt : w.heap.size + 1 < W.heap.size := (Array.getElem?_eq_some_iff.1 hl).1
    have hy := run_yield (P := P) (args := enc k) hl (by rw [hR]; exact hps k)
    rw [hR] at hy
    obtain ⟨U, hU⟩ : ∃ U, U = W.putObj (w.heap.size + 1) (.loop (R .busy)) := ⟨_, rfl⟩
    have hUL : U.heap[w.heap.size + 1]? = some (.loop (R .busy)) := by rw [hU]; exact World.putObj_heap_same hlt
    have hUD : U.heap[w.heap.size]? = some (.deferred (some [])) := by rw [hU]; exact (World.putObj_heap_other (by omega)).trans hd
    have hUI : I k U := by rw [hU]; exact hI.putObj _ hi (by omega) hl rfl
    have hUK : Kp W U := by rw [hU]; exact hKb _ _ _ _ (by omega) hl rfl rfl
    have hbg := run_beginRound (P := P) hl (Rs .ready)
    rw [Rb, ← hU] at hbg
    refine ⟨fn, _, assign, body, hy, roundIn_of_wpIn hfn (hassign _ k W _ hk ⟨U, hbg, wpIn_mono (hbody _ k U hk hUI) ?_⟩)⟩
    rintro e b W3 hp
    cases e with
    | normal =>
      obtain ⟨q1, q2, q3⟩ := hp
      have l3 := q1.same _ _ (by omega) hUL rfl
      have d3 := q1.same _ _ (Nat.le_refl _) hUD rfl
      have he := run_endRound (P := P) none l3
      rw [show ({ R .busy with state := if (none : Option Code).isNone then LoopState.ready else LoopState.done, pending := none } : Loop) = R .ready by rw [hR]; rfl] at he
      exact ⟨_, _, he, rfl, ⟨hI.putObj _ q3 (by omega) l3 rfl, World.putObj_heap_same (Array.getElem?_eq_some_iff.1 l3).1, (World.putObj_heap_other (by omega)).trans d3⟩, hKt (hKt hUK q2) (hKb _ _ _ _ (by omega) l3 rfl rfl)⟩
    | ret => exact hp.elim
    | exit id => exact hp.elim
    | goto t => exact hp.elim
    | panic ch => exact hp.elim
    | outgrown => exact hp.elim
  · rintro e W2 ⟨⟨v, rfl⟩, hi, hl, hd⟩
    have he := run_endLoop (P := P) hl (by rw [Rs]; simp)
    rw [Rp] at he
    exact ⟨none, _, he, hdone _ _ (Nat.le_refl _) (hI.putObj _ hi (by omega) hl rfl) ((World.putObj_heap_other (by omega)).trans hd)⟩
end Go.Proofs.Ytafddofajfcffaa

/- A part of a slice of records. It speaks of no program. -/
namespace Go.Proofs.Ytafddofajfcffaa
open Go.ChangeShapes Go.WideShapes Go.ChangeAt Go.RowKit
set_option linter.unusedVariables false
set_option linter.unusedSimpArgs false

/-- The records from the f-th up to the t-th. -/
theorem tg_sub {α : Type} [Rec α] {L : List α} {f t i : Nat} (hi : i < t - f) (ht : t ≤ L.length) : tg ((L.drop f).take (t - f)) i = tg L (f + i) := by
  simp [tg, List.getD, List.getElem?_take, hi, List.getElem?_drop]
theorem TL.sub {α : Type} [Rec α] {w : World} {b o : Nat} {L : List α} {f t : Nat} (h : TL w (some ⟨b, o, none⟩) L.length L) (hft : f ≤ t) (ht : t ≤ L.length) : TL w (some ⟨b, o + f * Rec.size α, none⟩) (t - f) ((L.drop f).take (t - f)) := by
  refine ⟨by simp; omega, fun h0 => ?_⟩
  obtain ⟨b', o', e, hb, hc⟩ := h.2 (by omega)
  injection e with e
  cases e
  refine ⟨b, _, rfl, hb, fun i hi j hj => ?_⟩
  rw [tg_sub hi ht, ← hc (f + i) (by omega) j hj, Nat.add_mul, Nat.add_assoc o]

end Go.Proofs.Ytafddofajfcffaa

/- The iterator over pieces, and a range over it: 'for from, to := range piecesOf(start, ends)'. -/
namespace Go.Proofs.Ytafddofajfcffaa
open Go.ChangeShapes Go.WideShapes Go.ChangeAt Go.RowKit Go.Shelf
set_option linter.unusedVariables false
attribute [local go_sem] Oper.semAt_some

/-- Where piece k begins. -/
def frm (s : Int) (E : List Int) (k : Nat) : Int := if k = 0 then s else ng E (k - 1)
theorem frm_zero (s : Int) (E : List Int) : frm s E 0 = s := rfl
theorem frm_succ (s : Int) (E : List Int) (k : Nat) : frm s E (k + 1) = ng E k := rfl
/-- The first k pieces, by number. -/
def pcs (n k : Nat) : List (Fin n) := (List.finRange n).take k
theorem pcs_len {n k : Nat} (h : k ≤ n) : (pcs n k).length = k := by simp [pcs]; omega
theorem pcs_zero (n : Nat) : pcs n 0 = [] := by simp [pcs]
theorem pcs_succ {n k : Nat} (h : k < n) : pcs n (k + 1) = pcs n k ++ [⟨k, h⟩] := by
  unfold pcs
  rw [List.take_succ_eq_append_getElem (by simpa using h)]
  simp
abbrev encP (s : Int) (E : List Int) (x : Fin E.length) : Array Value := #[.int .i64 (frm s E x.val), .int .i64 (ng E x.val)]
set_option maxRecDepth 100000 in
set_option maxHeartbeats 2000000 in
theorem pieces1_in (F : Fence) (n : Nat) (h7 : F.fn 157) (hro : F.round = none) (hn : 1 ≤ n) (l B1 B2 n₀ : Nat) (s : Int) (A : Option Addr) (c : Nat) (E : List Int) (hl : E.length ≤ 4611686018427387904) (J Jx : List (Fin E.length) → World → Prop)
    (hY : ∀ pre x W, J pre W → pre.length < E.length → YieldAt F (n - 1) Try.prog l (encP s E x) W fun e W' =>
      (e = .returned (.bool true) ∧ J (pre ++ [x]) W' ∧ Below n₀ W W') ∨ (e = .returned (.bool false) ∧ Jx (pre ++ [x]) W'))
    (W : World) (hB1 : W.cell? ⟨B1, 0, none⟩ = some (.int .i64 s)) (hB2 : W.cell? ⟨B2, 0, none⟩ = some (.slice A E.length c))
    (hE : ∀ j, j < E.length → ∃ b o, A = some ⟨b, o, none⟩ ∧ b < n₀ ∧ W.cell? ⟨b, o + j, none⟩ = some (.int .i64 (ng E j))) (h0 : J [] W) :
    CallsIn F n Try.prog 157 #[.func (.yield l) #[] #[], .pointer (some ⟨B1, 0, none⟩), .pointer (some ⟨B2, 0, none⟩)] W fun e W' => (∃ v, e = .returned v) ∧
      ((∃ ys, ys = pcs E.length E.length ∧ J ys W') ∨ (∃ pre, (∃ k, k ≤ E.length ∧ pre = pcs E.length k) ∧ Jx pre W')) := by
  refine callsIn_of_wp Try.func157 rfl h7 ?_ hro
  simp only [Try.ntmps157, List.size_toArray, List.length_cons, List.length_nil, Nat.reduceAdd, Nat.reduceSub, Array.replicate_succ, Array.replicate_zero, List.push_toArray, List.append_toArray, List.nil_append, List.cons_append]
  gi_wp2
  clear hB1 hB2
  gi_loopw [4, 10] (fun f i wr => ∃ k : Nat, k ≤ E.length ∧ f = .int .i64 (frm s E k) ∧ i = .int .i64 k ∧ J (pcs E.length k) wr ∧ Below n₀ W wr) (fun _ i _ => E.length - (intOf i).toNat)
  case atStart => exact ⟨0, Nat.zero_le _, rfl, rfl, by rw [pcs_zero]; exact h0, Below.refl _ _⟩
  case round =>
    obtain ⟨k, hk, rfl, rfl, hJs, hnx⟩ := hrel
    by_cases hlt : k < E.length
    · obtain ⟨b, o, rfl, hb, hc⟩ := hE k hlt
      have hc' := (hnx.cell (p := ⟨b, o + k, none⟩) hb).trans hc
      obtain ⟨fn, tmps, assign, body, hy, hR⟩ := hY _ ⟨k, hlt⟩ wr hJs (by rw [pcs_len hk]; exact hlt)
      dsimp only [encP] at hy
      clear hc
      gi_wp2
      refine hR.mono ?_
      rintro e W3 (⟨rfl, hJ3, hk3⟩ | ⟨rfl, hJx3⟩)
      · gi_wp2
        go_roundw
        case rel => exact ⟨k + 1, by omega, by rw [frm_succ], by simp, by rw [pcs_succ hlt]; exact hJ3, hnx.trans hk3⟩
        case measure => simp [intOf]; omega
      · gi_wp2
        refine bodyPost_ret (results_none rfl _ _ _) rfl ?_
        exact ⟨⟨_, rfl⟩, .inr ⟨_, ⟨k + 1, by omega, (pcs_succ hlt).symm⟩, hJx3⟩⟩
    · obtain rfl : k = E.length := by omega
      gi_wp2
      go_end0
      exact ⟨⟨_, rfl⟩, .inl ⟨_, rfl, hJs⟩⟩
theorem pieces_stops (F : Fence) (n : Nat) (h7 : F.fn 157) (hro : F.round = none) (hn : 1 ≤ n) (B1 B2 n₀ : Nat) (s : Int) (A : Option Addr) (c : Nat) (E : List Int) (hl : E.length ≤ 4611686018427387904) (w : World) (hb1 : B1 < w.heap.size) (hb2 : B2 < w.heap.size) (hn₀ : n₀ ≤ w.heap.size)
    (hB1 : w.cell? ⟨B1, 0, none⟩ = some (.int .i64 s)) (hB2 : w.cell? ⟨B2, 0, none⟩ = some (.slice A E.length c))
    (hE : ∀ j, j < E.length → ∃ b o, A = some ⟨b, o, none⟩ ∧ b < n₀ ∧ w.cell? ⟨b, o + j, none⟩ = some (.int .i64 (ng E j))) :
    SeqStopsK F n Try.prog 157 #[.pointer (some ⟨B1, 0, none⟩), .pointer (some ⟨B2, 0, none⟩)] (encP s E) (Below n₀) (fun ys => ys = pcs E.length E.length) (fun pre => ∃ k, k ≤ E.length ∧ pre = pcs E.length k) E.length w := fun l J Jx W hW _ _ hY h0 =>
  pieces1_in F n h7 hro hn l B1 B2 n₀ s A c E hl J Jx hY W ((hW.cell (p := ⟨B1, 0, none⟩) hb1).trans hB1) ((hW.cell (p := ⟨B2, 0, none⟩) hb2).trans hB2)
    (fun j hj => by
      obtain ⟨b, o, e, hb, hc⟩ := hE j hj
      exact ⟨b, o, e, hb, (hW.cell (p := ⟨b, o + j, none⟩) (Nat.lt_of_lt_of_le hb hn₀)).trans hc⟩) h0
theorem piecesOf_i (s : Int) (A : Option Addr) (n c : Nat) (w : World) :
    Calls Try.prog 126 #[.int .i64 s, .slice A n c] w fun e w' => e = .returned (.func (.func 157) #[] #[.pointer (some ⟨w.heap.size, 0, none⟩), .pointer (some ⟨w.heap.size + 1, 0, none⟩)]) ∧ (w.alloc (.cells #[.int .i64 s] 3)).alloc (.cells #[.slice A n c] 24) = w' := by
  go_enter Try.func126, Try.ntmps126
  go_wp2
  go_ret
  exact ⟨rfl, rfl⟩
end Go.Proofs.Ytafddofajfcffaa

/- The sum of the costs of pages. -/
namespace Go.Proofs.Ytafddofajfcffaa
open Go.ChangeShapes Go.WideShapes Go.ChangeAt Go.RowKit Go.Shelf
set_option linter.unusedVariables false
set_option linter.unusedSimpArgs false
attribute [local go_sem] Oper.semAt_some

theorem keeps_below {W W' : World} (h : Below W.heap.size W W') : KeepsOthers W W' := ⟨h.size, fun k o hk _ => (h.block k (Array.getElem?_eq_some_iff.1 hk).1).trans hk⟩
/-- The sum of f over the first k numbers. -/
def sto (f : Nat → Int) : Nat → Int
  | 0 => 0
  | k + 1 => sto f k + f k
theorem sto_congr {f g : Nat → Int} : ∀ {k : Nat}, (∀ j, j < k → f j = g j) → sto f k = sto g k
  | 0, _ => rfl
  | k + 1, h => by simp only [sto]; rw [sto_congr (fun j hj => h j (by omega)), h k (by omega)]
theorem sto_bd {f : Nat → Int} {M : Int} : ∀ {k : Nat}, (∀ j, j < k → -M ≤ f j ∧ f j ≤ M) → -(M * k) ≤ sto f k ∧ sto f k ≤ M * k
  | 0, _ => by simp [sto]
  | k + 1, h => by
    have a := sto_bd (k := k) (fun j hj => h j (by omega))
    have b := h k (by omega)
    simp only [sto]
    rw [show (((k + 1 : Nat) : Int)) = (k : Int) + 1 by omega, Int.mul_add, Int.mul_one]
    omega
section
variable (s : Int) (E : List Int) (C : Nat → Int → Int → Int × Bool)
/-- What piece number x costs as the j-th. -/
def cAt (j : Nat) (x : Fin E.length) : Int × Bool := C j (frm s E x.val) (ng E x.val)
/-- All of a list of pieces are allowed. -/
def okP (l : List (Fin E.length)) : Prop := ∀ j (h : j < l.length), (cAt s E C j l[j]).2 = true
/-- Their sum. -/
def cO (j : Nat) : Option (Fin E.length) → Int
  | some x => (cAt s E C j x).1
  | none => 0
def sumP (l : List (Fin E.length)) : Int := sto (fun j => cO s E C j l[j]?) l.length
end
variable {s : Int} {E : List Int} {C : Nat → Int → Int → Int × Bool}
theorem okP_bad {l : List (Fin E.length)} {x : Fin E.length} (hx : (cAt s E C l.length x).2 = false) : ¬ okP s E C (l ++ [x]) := fun h => by
  have := h l.length (by simp)
  rw [List.getElem_append_right (Nat.le_refl _)] at this
  simp only [Nat.sub_self, List.getElem_singleton] at this
  rw [hx] at this
  cases this
theorem sumP_bd {M : Int} (hM : ∀ j p q, -M ≤ (C j p q).1 ∧ (C j p q).1 ≤ M) {l : List (Fin E.length)} : -(M * l.length) ≤ sumP s E C l ∧ sumP s E C l ≤ M * l.length := by
  have hM0 : 0 ≤ M := by have := hM 0 0 0; omega
  unfold sumP
  refine sto_bd fun j hj => ?_
  rw [List.getElem?_eq_getElem hj]
  exact hM _ _ _
theorem okP_nil : okP s E C [] := fun j h => by simp at h
theorem okP_snoc {l : List (Fin E.length)} {x : Fin E.length} (h : okP s E C l) (hx : (cAt s E C l.length x).2 = true) : okP s E C (l ++ [x]) := fun j hj => by
  rw [List.length_append] at hj
  simp at hj
  rcases (by omega : j < l.length ∨ j = l.length) with e | e
  · rw [List.getElem_append_left e]; exact h j e
  · subst e
    rw [List.getElem_append_right (Nat.le_refl _)]
    simpa using hx
theorem sumP_nil : sumP s E C [] = 0 := rfl
theorem sumP_snoc {l : List (Fin E.length)} {x : Fin E.length} : sumP s E C (l ++ [x]) = sumP s E C l + (cAt s E C l.length x).1 := by
  unfold sumP
  rw [show (l ++ [x]).length = l.length + 1 by simp]
  simp only [sto]
  congr 1
  · apply sto_congr
    intro j hj
    rw [List.getElem?_append_left hj]
  · simp [cO]
/-- What totalCost answers. -/
def okT (s : Int) (E : List Int) (C : Nat → Int → Int → Int × Bool) (k : Nat) : Prop := ∀ j, j < k → (C j (frm s E j) (ng E j)).2 = true
noncomputable def toO (s : Int) (E : List Int) (C : Nat → Int → Int → Int × Bool) : Int × Bool :=
  open Classical in if okT s E C E.length then (sto (fun j => (C j (frm s E j) (ng E j)).1) E.length, true) else (0, false)
theorem toO_yes (h : okT s E C E.length) : toO s E C = (sto (fun j => (C j (frm s E j) (ng E j)).1) E.length, true) := by
  unfold toO; rw [if_pos h]
theorem toO_no (h : ¬ okT s E C E.length) : toO s E C = (0, false) := by
  unfold toO; rw [if_neg h]
theorem pcs_at {n k j : Nat} (hk : k ≤ n) (hj : j < (pcs n k).length) : ((pcs n k)[j]).val = j := by
  simp [pcs]
theorem okP_pcs {k : Nat} (hk : k ≤ E.length) : okP s E C (pcs E.length k) ↔ okT s E C k := by
  constructor
  · intro h j hj
    have := h j (by rw [pcs_len hk]; exact hj)
    unfold cAt at this
    rwa [pcs_at hk] at this
  · intro h j hj
    unfold cAt
    rw [pcs_at hk]
    exact h j (by rwa [pcs_len hk] at hj)
theorem sumP_pcs {k : Nat} (hk : k ≤ E.length) : sumP s E C (pcs E.length k) = sto (fun j => (C j (frm s E j) (ng E j)).1) k := by
  unfold sumP
  rw [pcs_len hk]
  apply sto_congr
  intro j hj
  rw [List.getElem?_eq_getElem (by rw [pcs_len hk]; exact hj)]
  show (cAt s E C j _).1 = _
  unfold cAt
  rw [pcs_at hk]
end Go.Proofs.Ytafddofajfcffaa

/- The sum of the costs of lines. -/
namespace Go.Proofs.Ytafddofajfcffaa
open Go.ChangeShapes Go.WideShapes Go.ChangeAt Go.RowKit Go.Shelf
set_option linter.unusedVariables false
set_option linter.unusedSimpArgs false
attribute [local go_sem] Oper.semAt_some

set_option maxRecDepth 100000 in
set_option maxHeartbeats 4000000 in
theorem total_lines (w : World) (A : Option Addr) (c : Nat) (E : List Int) (hE : IL w A E.length E) (hl : E.length ≤ 1048576) (s : Int) (C : Nat → Int → Int → Int × Bool) (q1 q2 q3 : Value) (hM : ∀ j p q, -8000000000 ≤ (C j p q).1 ∧ (C j p q).1 ≤ 8000000000)
    (HC : ∀ (u : World), Below w.heap.size w u → ∀ (i : Nat) (x : Fin E.length), Calls Try.prog 128 #[.int .i64 i, .int .i64 (frm s E x.val), .int .i64 (ng E x.val), q1, q2, q3] u fun e u' => e = .returned (.tuple #[.int .i64 (C i (frm s E x.val) (ng E x.val)).1, .bool (C i (frm s E x.val) (ng E x.val)).2]) ∧ Below u.heap.size u u') :
    Calls Try.prog 127 #[.int .i64 s, .slice A E.length c, .func (.func 128) #[] #[q1, q2, q3]] w fun e w' => e = .returned (.tuple #[.int .i64 (toO s E C).1, .bool (toO s E C).2]) ∧ Below w.heap.size w w' := by
  have HHC := hide HC
  clear HC
  refine (callsIn_wide (n := 5)).1 ?_
  refine callsIn_of_wp_marks Try.func127 rfl trivial ?_ rfl
  simp only [Try.ntmps127, List.size_toArray, List.length_cons, List.length_nil, Nat.reduceAdd, Nat.reduceSub, Array.replicate_succ, Array.replicate_zero, List.push_toArray, List.append_toArray, List.nil_append, List.cons_append]
  gi_wp2_with (refine ⟨trivial, ?_⟩; gi_at_call 126; refine (callsIn_wide.2 (piecesOf_i s A E.length c _)).mono ?_; rintro e w' ⟨rfl, rfl⟩)
  have c5 : (((((((w.alloc (.cells #[.func (.func 128) #[] #[q1, q2, q3]] 104)).alloc (.cells #[.int .i64 0] 3)).alloc (.cells #[.bool false] 4)).alloc (.cells #[.int .i64 0] 3)).alloc (.cells #[.int .i64 0] 3)).alloc (.cells #[.int .i64 s] 3)).alloc (.cells #[.slice A E.length c] 24)).cell? ⟨w.heap.size, 0, none⟩ = some (.func (.func 128) #[] #[q1, q2, q3]) := by simp [go_sem]
  have c6 : (((((((w.alloc (.cells #[.func (.func 128) #[] #[q1, q2, q3]] 104)).alloc (.cells #[.int .i64 0] 3)).alloc (.cells #[.bool false] 4)).alloc (.cells #[.int .i64 0] 3)).alloc (.cells #[.int .i64 0] 3)).alloc (.cells #[.int .i64 s] 3)).alloc (.cells #[.slice A E.length c] 24)).cell? ⟨w.heap.size + 1, 0, none⟩ = some (.int .i64 0) := by simp [go_sem]
  have f6 : (((((((w.alloc (.cells #[.func (.func 128) #[] #[q1, q2, q3]] 104)).alloc (.cells #[.int .i64 0] 3)).alloc (.cells #[.bool false] 4)).alloc (.cells #[.int .i64 0] 3)).alloc (.cells #[.int .i64 0] 3)).alloc (.cells #[.int .i64 s] 3)).alloc (.cells #[.slice A E.length c] 24)).frozen? ⟨w.heap.size + 1, 0, none⟩ = false := by simp [go_sem]
  have c7 : (((((((w.alloc (.cells #[.func (.func 128) #[] #[q1, q2, q3]] 104)).alloc (.cells #[.int .i64 0] 3)).alloc (.cells #[.bool false] 4)).alloc (.cells #[.int .i64 0] 3)).alloc (.cells #[.int .i64 0] 3)).alloc (.cells #[.int .i64 s] 3)).alloc (.cells #[.slice A E.length c] 24)).cell? ⟨w.heap.size + 1 + 1, 0, none⟩ = some (.bool false) := by simp [go_sem]
  have f7 : (((((((w.alloc (.cells #[.func (.func 128) #[] #[q1, q2, q3]] 104)).alloc (.cells #[.int .i64 0] 3)).alloc (.cells #[.bool false] 4)).alloc (.cells #[.int .i64 0] 3)).alloc (.cells #[.int .i64 0] 3)).alloc (.cells #[.int .i64 s] 3)).alloc (.cells #[.slice A E.length c] 24)).frozen? ⟨w.heap.size + 1 + 1, 0, none⟩ = false := by simp [go_sem]
  have c8 : (((((((w.alloc (.cells #[.func (.func 128) #[] #[q1, q2, q3]] 104)).alloc (.cells #[.int .i64 0] 3)).alloc (.cells #[.bool false] 4)).alloc (.cells #[.int .i64 0] 3)).alloc (.cells #[.int .i64 0] 3)).alloc (.cells #[.int .i64 s] 3)).alloc (.cells #[.slice A E.length c] 24)).cell? ⟨w.heap.size + 1 + 1 + 1, 0, none⟩ = some (.int .i64 0) := by simp [go_sem]
  have f8 : (((((((w.alloc (.cells #[.func (.func 128) #[] #[q1, q2, q3]] 104)).alloc (.cells #[.int .i64 0] 3)).alloc (.cells #[.bool false] 4)).alloc (.cells #[.int .i64 0] 3)).alloc (.cells #[.int .i64 0] 3)).alloc (.cells #[.int .i64 s] 3)).alloc (.cells #[.slice A E.length c] 24)).frozen? ⟨w.heap.size + 1 + 1 + 1, 0, none⟩ = false := by simp [go_sem]
  have c9 : (((((((w.alloc (.cells #[.func (.func 128) #[] #[q1, q2, q3]] 104)).alloc (.cells #[.int .i64 0] 3)).alloc (.cells #[.bool false] 4)).alloc (.cells #[.int .i64 0] 3)).alloc (.cells #[.int .i64 0] 3)).alloc (.cells #[.int .i64 s] 3)).alloc (.cells #[.slice A E.length c] 24)).cell? ⟨w.heap.size + 1 + 1 + 1 + 1, 0, none⟩ = some (.int .i64 0) := by simp [go_sem]
  have f9 : (((((((w.alloc (.cells #[.func (.func 128) #[] #[q1, q2, q3]] 104)).alloc (.cells #[.int .i64 0] 3)).alloc (.cells #[.bool false] 4)).alloc (.cells #[.int .i64 0] 3)).alloc (.cells #[.int .i64 0] 3)).alloc (.cells #[.int .i64 s] 3)).alloc (.cells #[.slice A E.length c] 24)).frozen? ⟨w.heap.size + 1 + 1 + 1 + 1, 0, none⟩ = false := by simp [go_sem]
  have c10 : (((((((w.alloc (.cells #[.func (.func 128) #[] #[q1, q2, q3]] 104)).alloc (.cells #[.int .i64 0] 3)).alloc (.cells #[.bool false] 4)).alloc (.cells #[.int .i64 0] 3)).alloc (.cells #[.int .i64 0] 3)).alloc (.cells #[.int .i64 s] 3)).alloc (.cells #[.slice A E.length c] 24)).cell? ⟨w.heap.size + 1 + 1 + 1 + 1 + 1, 0, none⟩ = some (.int .i64 s) := by simp [go_sem]
  have c11 : (((((((w.alloc (.cells #[.func (.func 128) #[] #[q1, q2, q3]] 104)).alloc (.cells #[.int .i64 0] 3)).alloc (.cells #[.bool false] 4)).alloc (.cells #[.int .i64 0] 3)).alloc (.cells #[.int .i64 0] 3)).alloc (.cells #[.int .i64 s] 3)).alloc (.cells #[.slice A E.length c] 24)).cell? ⟨w.heap.size + 1 + 1 + 1 + 1 + 1 + 1, 0, none⟩ = some (.slice A E.length c) := by simp [go_sem]
  have hz0 : (((((((w.alloc (.cells #[.func (.func 128) #[] #[q1, q2, q3]] 104)).alloc (.cells #[.int .i64 0] 3)).alloc (.cells #[.bool false] 4)).alloc (.cells #[.int .i64 0] 3)).alloc (.cells #[.int .i64 0] 3)).alloc (.cells #[.int .i64 s] 3)).alloc (.cells #[.slice A E.length c] 24)).heap.size = w.heap.size + 7 := by simp
  have hB0 : Below w.heap.size w (((((((w.alloc (.cells #[.func (.func 128) #[] #[q1, q2, q3]] 104)).alloc (.cells #[.int .i64 0] 3)).alloc (.cells #[.bool false] 4)).alloc (.cells #[.int .i64 0] 3)).alloc (.cells #[.int .i64 0] 3)).alloc (.cells #[.int .i64 s] 3)).alloc (.cells #[.slice A E.length c] 24)) := by
    repeat' (first | exact bl_refl _ | refine bl_alloc ?_ _)
  obtain ⟨W0, hW0⟩ : ∃ W0, W0 = (((((((w.alloc (.cells #[.func (.func 128) #[] #[q1, q2, q3]] 104)).alloc (.cells #[.int .i64 0] 3)).alloc (.cells #[.bool false] 4)).alloc (.cells #[.int .i64 0] 3)).alloc (.cells #[.int .i64 0] 3)).alloc (.cells #[.int .i64 s] 3)).alloc (.cells #[.slice A E.length c] 24)) := ⟨_, rfl⟩
  rw [← hW0] at c5 c6 f6 c7 f7 c8 f8 c9 f9 c10 c11 hz0 hB0 ⊢
  clear hW0
  have hEE : ∀ j, j < E.length → ∃ b o, A = some ⟨b, o, none⟩ ∧ b < w.heap.size ∧ W0.cell? ⟨b, o + j, none⟩ = some (.int .i64 (ng E j)) := fun j hj => by
    obtain ⟨b, o, e, hb, hc⟩ := hE.at_ hj
    have hbl : b < w.heap.size := World.block_lt_of_cell? w _ hc
    exact ⟨b, o, e, hbl, (hB0.cell (p := ⟨b, o + j, none⟩) hbl).trans hc⟩
  refine wpIn_rangeFunc_ownG (F := Fence.wide) (n := 5) rfl (by decide) (gf := 157) (lb := #[.pointer (some ⟨w.heap.size + 1 + 1 + 1 + 1 + 1, 0, none⟩), .pointer (some ⟨w.heap.size + 1 + 1 + 1 + 1 + 1 + 1, 0, none⟩)]) rfl trivial (enters_of Try.func157 (by kernel_rfl) rfl)
    (pieces_stops Fence.wide 4 trivial rfl (by decide) (w.heap.size + 1 + 1 + 1 + 1 + 1) (w.heap.size + 1 + 1 + 1 + 1 + 1 + 1) w.heap.size s A c E (by omega) W0 (by omega) (by omega) (by omega) c10 c11 hEE) belowK_t (belowK_b (by omega)) (Below.refl _ _) (fun _ => rfl)
    (fun pre W => (okP s E C pre ∧ (W.cell? ⟨w.heap.size, 0, none⟩ = some (.func (.func 128) #[] #[q1, q2, q3]) ∧ (W.cell? ⟨w.heap.size + 1, 0, none⟩ = some (.int .i64 0) ∧ W.frozen? ⟨w.heap.size + 1, 0, none⟩ = false) ∧ (W.cell? ⟨w.heap.size + 1 + 1, 0, none⟩ = some (.bool false) ∧ W.frozen? ⟨w.heap.size + 1 + 1, 0, none⟩ = false) ∧ (W.cell? ⟨w.heap.size + 1 + 1 + 1, 0, none⟩ = some (.int .i64 pre.length) ∧ W.frozen? ⟨w.heap.size + 1 + 1 + 1, 0, none⟩ = false) ∧ (W.cell? ⟨w.heap.size + 1 + 1 + 1 + 1, 0, none⟩ = some (.int .i64 (sumP s E C pre)) ∧ W.frozen? ⟨w.heap.size + 1 + 1 + 1 + 1, 0, none⟩ = false) ∧ w.heap.size + 7 ≤ W.heap.size)) ∧ Below w.heap.size w W)
    (fun c pre W => (c = .ret ∧ ¬ okP s E C pre ∧ W.cell? ⟨w.heap.size + 1, 0, none⟩ = some (.int .i64 0) ∧ W.cell? ⟨w.heap.size + 1 + 1, 0, none⟩ = some (.bool false)) ∧ Below w.heap.size w W)
    (OwnFrom.and (Own.from (fun s' A' B' row hs hg hr => ⟨hs.1, cell_kept hs.2.1 hg hr, ⟨cell_kept hs.2.2.1.1 hg hr, (frozen_kept hs.2.2.1.1 hg hr).trans hs.2.2.1.2⟩, ⟨cell_kept hs.2.2.2.1.1 hg hr, (frozen_kept hs.2.2.2.1.1 hg hr).trans hs.2.2.2.1.2⟩, ⟨cell_kept hs.2.2.2.2.1.1 hg hr, (frozen_kept hs.2.2.2.2.1.1 hg hr).trans hs.2.2.2.2.1.2⟩, ⟨cell_kept hs.2.2.2.2.2.1.1 hg hr, (frozen_kept hs.2.2.2.2.2.1.1 hg hr).trans hs.2.2.2.2.2.1.2⟩, Nat.le_trans hs.2.2.2.2.2.2 hg.size⟩) _) (ownFrom_below (Nat.le_refl _) (by omega)))
    (fun c => OwnFrom.and (Own.from (fun s' A' B' row hs hg hr => ⟨hs.1, hs.2.1, cell_kept hs.2.2.1 hg hr, cell_kept hs.2.2.2 hg hr⟩) _) (ownFrom_below (Nat.le_refl _) (by omega)))
    ⟨⟨okP_nil, c5, ⟨c6, f6⟩, ⟨c7, f7⟩, ⟨c8, f8⟩, ⟨c9, f9⟩, by omega⟩, hB0⟩
    (fun x => { tmps := #[.int .i64 s, .slice A E.length c, .func (.func 128) #[] #[q1, q2, q3], undef, undef, .pointer (some ⟨w.heap.size, 0, none⟩), .pointer (some ⟨w.heap.size + 1, 0, none⟩), .pointer (some ⟨w.heap.size + 1 + 1, 0, none⟩), .pointer (some ⟨w.heap.size + 1 + 1 + 1, 0, none⟩), .pointer (some ⟨w.heap.size + 1 + 1 + 1 + 1, 0, none⟩), .int .i64 (frm s E x.val), .int .i64 (ng E x.val), undef, undef, .int .i64 s, .slice A E.length c, .func (.func 157) #[] #[.pointer (some ⟨w.heap.size + 1 + 1 + 1 + 1 + 1, 0, none⟩), .pointer (some ⟨w.heap.size + 1 + 1 + 1 + 1 + 1 + 1, 0, none⟩)], .int .i64 (frm s E x.val), .int .i64 (ng E x.val), undef, undef, undef, undef, undef, undef, undef, undef, undef, undef, undef, undef, undef, undef, undef, undef], defers := [] }) ?assign ?body ?done ?stop
  case assign =>
    intro l x W K hK
    gi_wp2
    exact hK
  case body =>
    rintro l pre x W ⟨⟨hok, c5, ⟨c6, f6⟩, ⟨c7, f7⟩, ⟨c8, f8⟩, ⟨c9, f9⟩, hzW⟩, hB⟩ hlen
    have hd : (1 : Nat) ≤ 5 - 1 - 1 := by decide
    have HCx := HHC.out W hB pre.length x
    have hsb := sumP_bd (s := s) (E := E) (C := C) hM (l := pre)
    have hpl : pre.length ≤ 1048576 := by omega
    have hmb := hM pre.length (frm s E x.val) (ng E x.val)
    have YES := hide (fun (h : (C pre.length (frm s E x.val) (ng E x.val)).2 = true) => okP_snoc (x := x) hok h)
    have NO := hide (fun (h : (C pre.length (frm s E x.val) (ng E x.val)).2 = false) => okP_bad (s := s) (E := E) (C := C) (l := pre) (x := x) h)
    have SN := hide (sumP_snoc (s := s) (E := E) (C := C) (l := pre) (x := x))
    unfold cAt at SN
    obtain ⟨v, hv⟩ : ∃ v, v = (C pre.length (frm s E x.val) (ng E x.val)).1 := ⟨_, rfl⟩
    obtain ⟨fl, hfl⟩ : ∃ v, v = (C pre.length (frm s E x.val) (ng E x.val)).2 := ⟨_, rfl⟩
    rw [← hv, ← hfl] at HCx
    rw [← hv] at SN hmb
    rw [← hfl] at YES NO
    obtain ⟨m, hm⟩ : ∃ m, m = sumP s E C pre := ⟨_, rfl⟩
    rw [← hm] at c9 hsb SN
    have HCC := hide HCx
    have l1 : w.heap.size + 1 < W.heap.size := by omega
    have l2 : w.heap.size + 1 + 1 < W.heap.size := by omega
    have l3 : w.heap.size + 1 + 1 + 1 < W.heap.size := by omega
    have l4 : w.heap.size + 1 + 1 + 1 + 1 < W.heap.size := by omega
    have ws : IntKind.i64.wrap (m + v) = m + v := IntWalk.i64_in _ (by omega)
    have wn : IntKind.i64.wrap ((pre.length : Int) + 1) = (pre.length : Int) + 1 := IntWalk.i64_in _ (by omega)
    clear HCx hv hfl hm hok hsb hmb
    cases fl
    · have NO' := hide (NO.out rfl)
      clear YES NO SN
      gi_wp2_with (refine ⟨trivial, ?_⟩; gi_at_call 128; refine (CallsIn.inRound l (callsIn_wide.2 HCC.out)).mono ?_; rintro e W2 ⟨rfl, hb⟩; have c5 := keep_cell hb c5; have c6 := keep_cell hb c6; have c7 := keep_cell hb c7; have c8 := keep_cell hb c8; have c9 := keep_cell hb c9; have f6 := (hb.frozen (p := ⟨w.heap.size + 1, 0, none⟩) l1).trans f6; have f7 := (hb.frozen (p := ⟨w.heap.size + 1 + 1, 0, none⟩) l2).trans f7; have f8 := (hb.frozen (p := ⟨w.heap.size + 1 + 1 + 1, 0, none⟩) l3).trans f8; have f9 := (hb.frozen (p := ⟨w.heap.size + 1 + 1 + 1 + 1, 0, none⟩) l4).trans f9)
      exact ⟨(((keeps_below hb).trans (KeepsOthers.setCell _ _ _)).trans (KeepsOthers.setCell _ _ _)).from _, ⟨rfl, NO'.out, by simp [go_sem, c6, c7], by simp [go_sem, c6, c7]⟩, bl_set (bl_set (bl_call hb hB) (show w.heap.size ≤ w.heap.size + 1 by omega) _) (show w.heap.size ≤ w.heap.size + 1 + 1 by omega) _⟩
    · have OK' := hide (YES.out rfl)
      clear YES NO
      gi_wp2_with (refine ⟨trivial, ?_⟩; gi_at_call 128; refine (CallsIn.inRound l (callsIn_wide.2 HCC.out)).mono ?_; rintro e W2 ⟨rfl, hb⟩; have c5 := keep_cell hb c5; have c6 := keep_cell hb c6; have c7 := keep_cell hb c7; have c8 := keep_cell hb c8; have c9 := keep_cell hb c9; have f6 := (hb.frozen (p := ⟨w.heap.size + 1, 0, none⟩) l1).trans f6; have f7 := (hb.frozen (p := ⟨w.heap.size + 1 + 1, 0, none⟩) l2).trans f7; have f8 := (hb.frozen (p := ⟨w.heap.size + 1 + 1 + 1, 0, none⟩) l3).trans f8; have f9 := (hb.frozen (p := ⟨w.heap.size + 1 + 1 + 1 + 1, 0, none⟩) l4).trans f9)
      have hlen1 : (pre ++ [x]).length = pre.length + 1 := by simp
      have hzz := hb.size
      refine ⟨(((keeps_below hb).trans (KeepsOthers.setCell _ _ _)).trans (KeepsOthers.setCell _ _ _)).from _, ((hb.mono hB.size).setCell (p := ⟨w.heap.size + 1 + 1 + 1, 0, none⟩) (show w.heap.size ≤ w.heap.size + 1 + 1 + 1 by omega) _).setCell (p := ⟨w.heap.size + 1 + 1 + 1 + 1, 0, none⟩) (show w.heap.size ≤ w.heap.size + 1 + 1 + 1 + 1 by omega) _, ⟨OK'.out, by simp [go_sem, c5], ⟨by simp [go_sem, c6], by simp [go_sem, f6]⟩, ⟨by simp [go_sem, c7], by simp [go_sem, f7]⟩, ⟨by rw [hlen1]; simp [go_sem, c8, c9], by simp [go_sem, f8]⟩, ⟨by rw [SN.out]; simp [go_sem, c8, c9], by simp [go_sem, f9]⟩, by simp; omega⟩, bl_set (bl_set (bl_call hb hB) (show w.heap.size ≤ w.heap.size + 1 + 1 + 1 by omega) _) (show w.heap.size ≤ w.heap.size + 1 + 1 + 1 + 1 by omega) _⟩
  case done =>
    rintro D ys W hD rfl ⟨⟨hok, c5, ⟨c6, f6⟩, ⟨c7, f7⟩, ⟨c8, f8⟩, ⟨c9, f9⟩, hzW⟩, hB⟩ hK
    have hT := hide (toO_yes ((okP_pcs (Nat.le_refl _)).1 hok))
    rw [← sumP_pcs (Nat.le_refl _)] at hT
    obtain ⟨m, hm⟩ : ∃ m, m = sumP s E C (pcs E.length E.length) := ⟨_, rfl⟩
    rw [← hm] at c9 hT
    clear hm hok
    gi_wp2
    have hp7 : (W.setCell ⟨w.heap.size + 1, 0, none⟩ (.int .i64 m)).cell? ⟨w.heap.size + 1 + 1, 0, none⟩ = some (.bool false) := by simp [go_sem, c7]
    have hK' := ((KeepsOthers.setCell W ⟨w.heap.size + 1, 0, none⟩ (.int .i64 m)).trans (KeepsOthers.setCell _ ⟨w.heap.size + 1 + 1, 0, none⟩ (.bool true))).same D _ hK rfl
    refine ⟨by simp, .inl ⟨_, _, rfl, run_takeDeferred hK', ?_⟩⟩
    have a6 : ((W.setCell ⟨w.heap.size + 1, 0, none⟩ (.int .i64 m)).setCell ⟨w.heap.size + 1 + 1, 0, none⟩ (.bool true)).cell? ⟨w.heap.size + 1, 0, none⟩ = some (.int .i64 m) := by simp [go_sem, c6]
    have a7 : ((W.setCell ⟨w.heap.size + 1, 0, none⟩ (.int .i64 m)).setCell ⟨w.heap.size + 1 + 1, 0, none⟩ (.bool true)).cell? ⟨w.heap.size + 1 + 1, 0, none⟩ = some (.bool true) := by simp [go_sem, c7]
    have h6 := cell_kept a6 (grownBy_putObj' _ D (.deferred none)) (fun r e => by cases e; exact ⟨_, hK', rfl⟩)
    have h7 := cell_kept a7 (grownBy_putObj' _ D (.deferred none)) (fun r e => by cases e; exact ⟨_, hK', rfl⟩)
    refine ⟨.tuple #[.int .i64 m, .bool true], ?_, by rw [hT.out], (bl_set (bl_set hB (show w.heap.size ≤ w.heap.size + 1 by omega) _) (show w.heap.size ≤ w.heap.size + 1 + 1 by omega) _).trans (belowK_b (w := W0) (by omega) _ D _ _ hD hK' rfl rfl)⟩
    simp [results, Try.f127, go_sem, h6, h7]
  case stop =>
    rintro D c pre W hD ⟨k, hk, rfl⟩ ⟨⟨rfl, hno, c6, c7⟩, hB⟩ hK
    have hT := hide (toO_no (s := s) (E := E) (C := C) (fun h => hno ((okP_pcs hk).2 (fun j hj => h j (by omega)))))
    clear hno
    gi_wp2
    refine ⟨by simp, .inl ⟨_, _, rfl, run_takeDeferred hK, ?_⟩⟩
    have h6 := cell_kept c6 (grownBy_putObj' _ D (.deferred none)) (fun r e => by cases e; exact ⟨_, hK, rfl⟩)
    have h7 := cell_kept c7 (grownBy_putObj' _ D (.deferred none)) (fun r e => by cases e; exact ⟨_, hK, rfl⟩)
    refine ⟨.tuple #[.int .i64 0, .bool false], ?_, by rw [hT.out], hB.trans (belowK_b (w := W0) (by omega) W D _ _ hD hK rfl rfl)⟩
    simp [results, Try.f127, go_sem, h6, h7]
end Go.Proofs.Ytafddofajfcffaa

/- Whether there are all lines between given breaks. -/
namespace Go.Proofs.Ytafddofajfcffaa
open Go.ChangeShapes Go.WideShapes Go.ChangeAt Go.RowKit Go.Shelf
set_option linter.unusedVariables false
set_option linter.unusedSimpArgs false
attribute [local go_sem] Oper.semAt_some

set_option maxRecDepth 100000 in
set_option maxHeartbeats 4000000 in
theorem total_div (w : World) (A : Option Addr) (c : Nat) (E : List Int) (hE : IL w A E.length E) (hl : E.length ≤ 1048576) (s : Int) (C : Nat → Int → Int → Int × Bool) (q1 : Value) (hM : ∀ j p q, -8000000000 ≤ (C j p q).1 ∧ (C j p q).1 ≤ 8000000000)
    (HC : ∀ (u : World), Below w.heap.size w u → ∀ (i : Nat) (x : Fin E.length), Calls Try.prog 125 #[.int .i64 i, .int .i64 (frm s E x.val), .int .i64 (ng E x.val), q1] u fun e u' => e = .returned (.tuple #[.int .i64 (C i (frm s E x.val) (ng E x.val)).1, .bool (C i (frm s E x.val) (ng E x.val)).2]) ∧ Below u.heap.size u u') :
    Calls Try.prog 127 #[.int .i64 s, .slice A E.length c, .func (.func 125) #[] #[q1]] w fun e w' => e = .returned (.tuple #[.int .i64 (toO s E C).1, .bool (toO s E C).2]) ∧ Below w.heap.size w w' := by
  have HHC := hide HC
  clear HC
  refine (callsIn_wide (n := 5)).1 ?_
  refine callsIn_of_wp_marks Try.func127 rfl trivial ?_ rfl
  simp only [Try.ntmps127, List.size_toArray, List.length_cons, List.length_nil, Nat.reduceAdd, Nat.reduceSub, Array.replicate_succ, Array.replicate_zero, List.push_toArray, List.append_toArray, List.nil_append, List.cons_append]
  gi_wp2_with (refine ⟨trivial, ?_⟩; gi_at_call 126; refine (callsIn_wide.2 (piecesOf_i s A E.length c _)).mono ?_; rintro e w' ⟨rfl, rfl⟩)
  have c5 : (((((((w.alloc (.cells #[.func (.func 125) #[] #[q1]] 104)).alloc (.cells #[.int .i64 0] 3)).alloc (.cells #[.bool false] 4)).alloc (.cells #[.int .i64 0] 3)).alloc (.cells #[.int .i64 0] 3)).alloc (.cells #[.int .i64 s] 3)).alloc (.cells #[.slice A E.length c] 24)).cell? ⟨w.heap.size, 0, none⟩ = some (.func (.func 125) #[] #[q1]) := by simp [go_sem]
  have c6 : (((((((w.alloc (.cells #[.func (.func 125) #[] #[q1]] 104)).alloc (.cells #[.int .i64 0] 3)).alloc (.cells #[.bool false] 4)).alloc (.cells #[.int .i64 0] 3)).alloc (.cells #[.int .i64 0] 3)).alloc (.cells #[.int .i64 s] 3)).alloc (.cells #[.slice A E.length c] 24)).cell? ⟨w.heap.size + 1, 0, none⟩ = some (.int .i64 0) := by simp [go_sem]
  have f6 : (((((((w.alloc (.cells #[.func (.func 125) #[] #[q1]] 104)).alloc (.cells #[.int .i64 0] 3)).alloc (.cells #[.bool false] 4)).alloc (.cells #[.int .i64 0] 3)).alloc (.cells #[.int .i64 0] 3)).alloc (.cells #[.int .i64 s] 3)).alloc (.cells #[.slice A E.length c] 24)).frozen? ⟨w.heap.size + 1, 0, none⟩ = false := by simp [go_sem]
  have c7 : (((((((w.alloc (.cells #[.func (.func 125) #[] #[q1]] 104)).alloc (.cells #[.int .i64 0] 3)).alloc (.cells #[.bool false] 4)).alloc (.cells #[.int .i64 0] 3)).alloc (.cells #[.int .i64 0] 3)).alloc (.cells #[.int .i64 s] 3)).alloc (.cells #[.slice A E.length c] 24)).cell? ⟨w.heap.size + 1 + 1, 0, none⟩ = some (.bool false) := by simp [go_sem]
  have f7 : (((((((w.alloc (.cells #[.func (.func 125) #[] #[q1]] 104)).alloc (.cells #[.int .i64 0] 3)).alloc (.cells #[.bool false] 4)).alloc (.cells #[.int .i64 0] 3)).alloc (.cells #[.int .i64 0] 3)).alloc (.cells #[.int .i64 s] 3)).alloc (.cells #[.slice A E.length c] 24)).frozen? ⟨w.heap.size + 1 + 1, 0, none⟩ = false := by simp [go_sem]
  have c8 : (((((((w.alloc (.cells #[.func (.func 125) #[] #[q1]] 104)).alloc (.cells #[.int .i64 0] 3)).alloc (.cells #[.bool false] 4)).alloc (.cells #[.int .i64 0] 3)).alloc (.cells #[.int .i64 0] 3)).alloc (.cells #[.int .i64 s] 3)).alloc (.cells #[.slice A E.length c] 24)).cell? ⟨w.heap.size + 1 + 1 + 1, 0, none⟩ = some (.int .i64 0) := by simp [go_sem]
  have f8 : (((((((w.alloc (.cells #[.func (.func 125) #[] #[q1]] 104)).alloc (.cells #[.int .i64 0] 3)).alloc (.cells #[.bool false] 4)).alloc (.cells #[.int .i64 0] 3)).alloc (.cells #[.int .i64 0] 3)).alloc (.cells #[.int .i64 s] 3)).alloc (.cells #[.slice A E.length c] 24)).frozen? ⟨w.heap.size + 1 + 1 + 1, 0, none⟩ = false := by simp [go_sem]
  have c9 : (((((((w.alloc (.cells #[.func (.func 125) #[] #[q1]] 104)).alloc (.cells #[.int .i64 0] 3)).alloc (.cells #[.bool false] 4)).alloc (.cells #[.int .i64 0] 3)).alloc (.cells #[.int .i64 0] 3)).alloc (.cells #[.int .i64 s] 3)).alloc (.cells #[.slice A E.length c] 24)).cell? ⟨w.heap.size + 1 + 1 + 1 + 1, 0, none⟩ = some (.int .i64 0) := by simp [go_sem]
  have f9 : (((((((w.alloc (.cells #[.func (.func 125) #[] #[q1]] 104)).alloc (.cells #[.int .i64 0] 3)).alloc (.cells #[.bool false] 4)).alloc (.cells #[.int .i64 0] 3)).alloc (.cells #[.int .i64 0] 3)).alloc (.cells #[.int .i64 s] 3)).alloc (.cells #[.slice A E.length c] 24)).frozen? ⟨w.heap.size + 1 + 1 + 1 + 1, 0, none⟩ = false := by simp [go_sem]
  have c10 : (((((((w.alloc (.cells #[.func (.func 125) #[] #[q1]] 104)).alloc (.cells #[.int .i64 0] 3)).alloc (.cells #[.bool false] 4)).alloc (.cells #[.int .i64 0] 3)).alloc (.cells #[.int .i64 0] 3)).alloc (.cells #[.int .i64 s] 3)).alloc (.cells #[.slice A E.length c] 24)).cell? ⟨w.heap.size + 1 + 1 + 1 + 1 + 1, 0, none⟩ = some (.int .i64 s) := by simp [go_sem]
  have c11 : (((((((w.alloc (.cells #[.func (.func 125) #[] #[q1]] 104)).alloc (.cells #[.int .i64 0] 3)).alloc (.cells #[.bool false] 4)).alloc (.cells #[.int .i64 0] 3)).alloc (.cells #[.int .i64 0] 3)).alloc (.cells #[.int .i64 s] 3)).alloc (.cells #[.slice A E.length c] 24)).cell? ⟨w.heap.size + 1 + 1 + 1 + 1 + 1 + 1, 0, none⟩ = some (.slice A E.length c) := by simp [go_sem]
  have hz0 : (((((((w.alloc (.cells #[.func (.func 125) #[] #[q1]] 104)).alloc (.cells #[.int .i64 0] 3)).alloc (.cells #[.bool false] 4)).alloc (.cells #[.int .i64 0] 3)).alloc (.cells #[.int .i64 0] 3)).alloc (.cells #[.int .i64 s] 3)).alloc (.cells #[.slice A E.length c] 24)).heap.size = w.heap.size + 7 := by simp
  have hB0 : Below w.heap.size w (((((((w.alloc (.cells #[.func (.func 125) #[] #[q1]] 104)).alloc (.cells #[.int .i64 0] 3)).alloc (.cells #[.bool false] 4)).alloc (.cells #[.int .i64 0] 3)).alloc (.cells #[.int .i64 0] 3)).alloc (.cells #[.int .i64 s] 3)).alloc (.cells #[.slice A E.length c] 24)) := by
    repeat' (first | exact bl_refl _ | refine bl_alloc ?_ _)
  obtain ⟨W0, hW0⟩ : ∃ W0, W0 = (((((((w.alloc (.cells #[.func (.func 125) #[] #[q1]] 104)).alloc (.cells #[.int .i64 0] 3)).alloc (.cells #[.bool false] 4)).alloc (.cells #[.int .i64 0] 3)).alloc (.cells #[.int .i64 0] 3)).alloc (.cells #[.int .i64 s] 3)).alloc (.cells #[.slice A E.length c] 24)) := ⟨_, rfl⟩
  rw [← hW0] at c5 c6 f6 c7 f7 c8 f8 c9 f9 c10 c11 hz0 hB0 ⊢
  clear hW0
  have hEE : ∀ j, j < E.length → ∃ b o, A = some ⟨b, o, none⟩ ∧ b < w.heap.size ∧ W0.cell? ⟨b, o + j, none⟩ = some (.int .i64 (ng E j)) := fun j hj => by
    obtain ⟨b, o, e, hb, hc⟩ := hE.at_ hj
    have hbl : b < w.heap.size := World.block_lt_of_cell? w _ hc
    exact ⟨b, o, e, hbl, (hB0.cell (p := ⟨b, o + j, none⟩) hbl).trans hc⟩
  refine wpIn_rangeFunc_ownG (F := Fence.wide) (n := 5) rfl (by decide) (gf := 157) (lb := #[.pointer (some ⟨w.heap.size + 1 + 1 + 1 + 1 + 1, 0, none⟩), .pointer (some ⟨w.heap.size + 1 + 1 + 1 + 1 + 1 + 1, 0, none⟩)]) rfl trivial (enters_of Try.func157 (by kernel_rfl) rfl)
    (pieces_stops Fence.wide 4 trivial rfl (by decide) (w.heap.size + 1 + 1 + 1 + 1 + 1) (w.heap.size + 1 + 1 + 1 + 1 + 1 + 1) w.heap.size s A c E (by omega) W0 (by omega) (by omega) (by omega) c10 c11 hEE) belowK_t (belowK_b (by omega)) (Below.refl _ _) (fun _ => rfl)
    (fun pre W => (okP s E C pre ∧ (W.cell? ⟨w.heap.size, 0, none⟩ = some (.func (.func 125) #[] #[q1]) ∧ (W.cell? ⟨w.heap.size + 1, 0, none⟩ = some (.int .i64 0) ∧ W.frozen? ⟨w.heap.size + 1, 0, none⟩ = false) ∧ (W.cell? ⟨w.heap.size + 1 + 1, 0, none⟩ = some (.bool false) ∧ W.frozen? ⟨w.heap.size + 1 + 1, 0, none⟩ = false) ∧ (W.cell? ⟨w.heap.size + 1 + 1 + 1, 0, none⟩ = some (.int .i64 pre.length) ∧ W.frozen? ⟨w.heap.size + 1 + 1 + 1, 0, none⟩ = false) ∧ (W.cell? ⟨w.heap.size + 1 + 1 + 1 + 1, 0, none⟩ = some (.int .i64 (sumP s E C pre)) ∧ W.frozen? ⟨w.heap.size + 1 + 1 + 1 + 1, 0, none⟩ = false) ∧ w.heap.size + 7 ≤ W.heap.size)) ∧ Below w.heap.size w W)
    (fun c pre W => (c = .ret ∧ ¬ okP s E C pre ∧ W.cell? ⟨w.heap.size + 1, 0, none⟩ = some (.int .i64 0) ∧ W.cell? ⟨w.heap.size + 1 + 1, 0, none⟩ = some (.bool false)) ∧ Below w.heap.size w W)
    (OwnFrom.and (Own.from (fun s' A' B' row hs hg hr => ⟨hs.1, cell_kept hs.2.1 hg hr, ⟨cell_kept hs.2.2.1.1 hg hr, (frozen_kept hs.2.2.1.1 hg hr).trans hs.2.2.1.2⟩, ⟨cell_kept hs.2.2.2.1.1 hg hr, (frozen_kept hs.2.2.2.1.1 hg hr).trans hs.2.2.2.1.2⟩, ⟨cell_kept hs.2.2.2.2.1.1 hg hr, (frozen_kept hs.2.2.2.2.1.1 hg hr).trans hs.2.2.2.2.1.2⟩, ⟨cell_kept hs.2.2.2.2.2.1.1 hg hr, (frozen_kept hs.2.2.2.2.2.1.1 hg hr).trans hs.2.2.2.2.2.1.2⟩, Nat.le_trans hs.2.2.2.2.2.2 hg.size⟩) _) (ownFrom_below (Nat.le_refl _) (by omega)))
    (fun c => OwnFrom.and (Own.from (fun s' A' B' row hs hg hr => ⟨hs.1, hs.2.1, cell_kept hs.2.2.1 hg hr, cell_kept hs.2.2.2 hg hr⟩) _) (ownFrom_below (Nat.le_refl _) (by omega)))
    ⟨⟨okP_nil, c5, ⟨c6, f6⟩, ⟨c7, f7⟩, ⟨c8, f8⟩, ⟨c9, f9⟩, by omega⟩, hB0⟩
    (fun x => { tmps := #[.int .i64 s, .slice A E.length c, .func (.func 125) #[] #[q1], undef, undef, .pointer (some ⟨w.heap.size, 0, none⟩), .pointer (some ⟨w.heap.size + 1, 0, none⟩), .pointer (some ⟨w.heap.size + 1 + 1, 0, none⟩), .pointer (some ⟨w.heap.size + 1 + 1 + 1, 0, none⟩), .pointer (some ⟨w.heap.size + 1 + 1 + 1 + 1, 0, none⟩), .int .i64 (frm s E x.val), .int .i64 (ng E x.val), undef, undef, .int .i64 s, .slice A E.length c, .func (.func 157) #[] #[.pointer (some ⟨w.heap.size + 1 + 1 + 1 + 1 + 1, 0, none⟩), .pointer (some ⟨w.heap.size + 1 + 1 + 1 + 1 + 1 + 1, 0, none⟩)], .int .i64 (frm s E x.val), .int .i64 (ng E x.val), undef, undef, undef, undef, undef, undef, undef, undef, undef, undef, undef, undef, undef, undef, undef, undef], defers := [] }) ?assign ?body ?done ?stop
  case assign =>
    intro l x W K hK
    gi_wp2
    exact hK
  case body =>
    rintro l pre x W ⟨⟨hok, c5, ⟨c6, f6⟩, ⟨c7, f7⟩, ⟨c8, f8⟩, ⟨c9, f9⟩, hzW⟩, hB⟩ hlen
    have hd : (1 : Nat) ≤ 5 - 1 - 1 := by decide
    have HCx := HHC.out W hB pre.length x
    have hsb := sumP_bd (s := s) (E := E) (C := C) hM (l := pre)
    have hpl : pre.length ≤ 1048576 := by omega
    have hmb := hM pre.length (frm s E x.val) (ng E x.val)
    have YES := hide (fun (h : (C pre.length (frm s E x.val) (ng E x.val)).2 = true) => okP_snoc (x := x) hok h)
    have NO := hide (fun (h : (C pre.length (frm s E x.val) (ng E x.val)).2 = false) => okP_bad (s := s) (E := E) (C := C) (l := pre) (x := x) h)
    have SN := hide (sumP_snoc (s := s) (E := E) (C := C) (l := pre) (x := x))
    unfold cAt at SN
    obtain ⟨v, hv⟩ : ∃ v, v = (C pre.length (frm s E x.val) (ng E x.val)).1 := ⟨_, rfl⟩
    obtain ⟨fl, hfl⟩ : ∃ v, v = (C pre.length (frm s E x.val) (ng E x.val)).2 := ⟨_, rfl⟩
    rw [← hv, ← hfl] at HCx
    rw [← hv] at SN hmb
    rw [← hfl] at YES NO
    obtain ⟨m, hm⟩ : ∃ m, m = sumP s E C pre := ⟨_, rfl⟩
    rw [← hm] at c9 hsb SN
    have HCC := hide HCx
    have l1 : w.heap.size + 1 < W.heap.size := by omega
    have l2 : w.heap.size + 1 + 1 < W.heap.size := by omega
    have l3 : w.heap.size + 1 + 1 + 1 < W.heap.size := by omega
    have l4 : w.heap.size + 1 + 1 + 1 + 1 < W.heap.size := by omega
    have ws : IntKind.i64.wrap (m + v) = m + v := IntWalk.i64_in _ (by omega)
    have wn : IntKind.i64.wrap ((pre.length : Int) + 1) = (pre.length : Int) + 1 := IntWalk.i64_in _ (by omega)
    clear HCx hv hfl hm hok hsb hmb
    cases fl
    · have NO' := hide (NO.out rfl)
      clear YES NO SN
      gi_wp2_with (refine ⟨trivial, ?_⟩; gi_at_call 125; refine (CallsIn.inRound l (callsIn_wide.2 HCC.out)).mono ?_; rintro e W2 ⟨rfl, hb⟩; have c5 := keep_cell hb c5; have c6 := keep_cell hb c6; have c7 := keep_cell hb c7; have c8 := keep_cell hb c8; have c9 := keep_cell hb c9; have f6 := (hb.frozen (p := ⟨w.heap.size + 1, 0, none⟩) l1).trans f6; have f7 := (hb.frozen (p := ⟨w.heap.size + 1 + 1, 0, none⟩) l2).trans f7; have f8 := (hb.frozen (p := ⟨w.heap.size + 1 + 1 + 1, 0, none⟩) l3).trans f8; have f9 := (hb.frozen (p := ⟨w.heap.size + 1 + 1 + 1 + 1, 0, none⟩) l4).trans f9)
      exact ⟨(((keeps_below hb).trans (KeepsOthers.setCell _ _ _)).trans (KeepsOthers.setCell _ _ _)).from _, ⟨rfl, NO'.out, by simp [go_sem, c6, c7], by simp [go_sem, c6, c7]⟩, bl_set (bl_set (bl_call hb hB) (show w.heap.size ≤ w.heap.size + 1 by omega) _) (show w.heap.size ≤ w.heap.size + 1 + 1 by omega) _⟩
    · have OK' := hide (YES.out rfl)
      clear YES NO
      gi_wp2_with (refine ⟨trivial, ?_⟩; gi_at_call 125; refine (CallsIn.inRound l (callsIn_wide.2 HCC.out)).mono ?_; rintro e W2 ⟨rfl, hb⟩; have c5 := keep_cell hb c5; have c6 := keep_cell hb c6; have c7 := keep_cell hb c7; have c8 := keep_cell hb c8; have c9 := keep_cell hb c9; have f6 := (hb.frozen (p := ⟨w.heap.size + 1, 0, none⟩) l1).trans f6; have f7 := (hb.frozen (p := ⟨w.heap.size + 1 + 1, 0, none⟩) l2).trans f7; have f8 := (hb.frozen (p := ⟨w.heap.size + 1 + 1 + 1, 0, none⟩) l3).trans f8; have f9 := (hb.frozen (p := ⟨w.heap.size + 1 + 1 + 1 + 1, 0, none⟩) l4).trans f9)
      have hlen1 : (pre ++ [x]).length = pre.length + 1 := by simp
      have hzz := hb.size
      refine ⟨(((keeps_below hb).trans (KeepsOthers.setCell _ _ _)).trans (KeepsOthers.setCell _ _ _)).from _, ((hb.mono hB.size).setCell (p := ⟨w.heap.size + 1 + 1 + 1, 0, none⟩) (show w.heap.size ≤ w.heap.size + 1 + 1 + 1 by omega) _).setCell (p := ⟨w.heap.size + 1 + 1 + 1 + 1, 0, none⟩) (show w.heap.size ≤ w.heap.size + 1 + 1 + 1 + 1 by omega) _, ⟨OK'.out, by simp [go_sem, c5], ⟨by simp [go_sem, c6], by simp [go_sem, f6]⟩, ⟨by simp [go_sem, c7], by simp [go_sem, f7]⟩, ⟨by rw [hlen1]; simp [go_sem, c8, c9], by simp [go_sem, f8]⟩, ⟨by rw [SN.out]; simp [go_sem, c8, c9], by simp [go_sem, f9]⟩, by simp; omega⟩, bl_set (bl_set (bl_call hb hB) (show w.heap.size ≤ w.heap.size + 1 + 1 + 1 by omega) _) (show w.heap.size ≤ w.heap.size + 1 + 1 + 1 + 1 by omega) _⟩
  case done =>
    rintro D ys W hD rfl ⟨⟨hok, c5, ⟨c6, f6⟩, ⟨c7, f7⟩, ⟨c8, f8⟩, ⟨c9, f9⟩, hzW⟩, hB⟩ hK
    have hT := hide (toO_yes ((okP_pcs (Nat.le_refl _)).1 hok))
    rw [← sumP_pcs (Nat.le_refl _)] at hT
    obtain ⟨m, hm⟩ : ∃ m, m = sumP s E C (pcs E.length E.length) := ⟨_, rfl⟩
    rw [← hm] at c9 hT
    clear hm hok
    gi_wp2
    have hp7 : (W.setCell ⟨w.heap.size + 1, 0, none⟩ (.int .i64 m)).cell? ⟨w.heap.size + 1 + 1, 0, none⟩ = some (.bool false) := by simp [go_sem, c7]
    have hK' := ((KeepsOthers.setCell W ⟨w.heap.size + 1, 0, none⟩ (.int .i64 m)).trans (KeepsOthers.setCell _ ⟨w.heap.size + 1 + 1, 0, none⟩ (.bool true))).same D _ hK rfl
    refine ⟨by simp, .inl ⟨_, _, rfl, run_takeDeferred hK', ?_⟩⟩
    have a6 : ((W.setCell ⟨w.heap.size + 1, 0, none⟩ (.int .i64 m)).setCell ⟨w.heap.size + 1 + 1, 0, none⟩ (.bool true)).cell? ⟨w.heap.size + 1, 0, none⟩ = some (.int .i64 m) := by simp [go_sem, c6]
    have a7 : ((W.setCell ⟨w.heap.size + 1, 0, none⟩ (.int .i64 m)).setCell ⟨w.heap.size + 1 + 1, 0, none⟩ (.bool true)).cell? ⟨w.heap.size + 1 + 1, 0, none⟩ = some (.bool true) := by simp [go_sem, c7]
    have h6 := cell_kept a6 (grownBy_putObj' _ D (.deferred none)) (fun r e => by cases e; exact ⟨_, hK', rfl⟩)
    have h7 := cell_kept a7 (grownBy_putObj' _ D (.deferred none)) (fun r e => by cases e; exact ⟨_, hK', rfl⟩)
    refine ⟨.tuple #[.int .i64 m, .bool true], ?_, by rw [hT.out], (bl_set (bl_set hB (show w.heap.size ≤ w.heap.size + 1 by omega) _) (show w.heap.size ≤ w.heap.size + 1 + 1 by omega) _).trans (belowK_b (w := W0) (by omega) _ D _ _ hD hK' rfl rfl)⟩
    simp [results, Try.f127, go_sem, h6, h7]
  case stop =>
    rintro D c pre W hD ⟨k, hk, rfl⟩ ⟨⟨rfl, hno, c6, c7⟩, hB⟩ hK
    have hT := hide (toO_no (s := s) (E := E) (C := C) (fun h => hno ((okP_pcs hk).2 (fun j hj => h j (by omega)))))
    clear hno
    gi_wp2
    refine ⟨by simp, .inl ⟨_, _, rfl, run_takeDeferred hK, ?_⟩⟩
    have h6 := cell_kept c6 (grownBy_putObj' _ D (.deferred none)) (fun r e => by cases e; exact ⟨_, hK, rfl⟩)
    have h7 := cell_kept c7 (grownBy_putObj' _ D (.deferred none)) (fun r e => by cases e; exact ⟨_, hK, rfl⟩)
    refine ⟨.tuple #[.int .i64 0, .bool false], ?_, by rw [hT.out], hB.trans (belowK_b (w := W0) (by omega) W D _ _ hD hK rfl rfl)⟩
    simp [results, Try.f127, go_sem, h6, h7]
end Go.Proofs.Ytafddofajfcffaa

/- The iterator over pieces, where the body keeps all that the iterator reads, but not all that lies below it. -/
namespace Go.Proofs.Ytafddofajfcffaa
open Go.ChangeShapes Go.WideShapes Go.ChangeAt Go.RowKit Go.Shelf
set_option linter.unusedVariables false
attribute [local go_sem] Oper.semAt_some

/-- All blocks below n₁ but one are as they were. -/
def KB (n₁ B : Nat) (V W : World) : Prop := V.heap.size ≤ W.heap.size ∧ ∀ i, i < n₁ → i ≠ B → W.heap[i]? = V.heap[i]?
theorem KB.refl (n₁ B : Nat) (W : World) : KB n₁ B W W := ⟨Nat.le_refl _, fun _ _ _ => rfl⟩
theorem KB.trans {n₁ B : Nat} {U V W : World} (h : KB n₁ B U V) (k : KB n₁ B V W) : KB n₁ B U W := ⟨Nat.le_trans h.1 k.1, fun i hi hb => (k.2 i hi hb).trans (h.2 i hi hb)⟩
theorem KB.below {n₁ B : Nat} {V W : World} (h : Below n₁ V W) : KB n₁ B V W := ⟨h.size, fun i hi _ => h.block i hi⟩
theorem KB.set {n₁ B : Nat} {V W : World} (h : KB n₁ B V W) (j : Nat) (v : Value) : KB n₁ B V (W.setCell ⟨B, j, none⟩ v) :=
  ⟨Nat.le_trans h.1 (Lib.grownBy_setCell W B j v).size, fun i hi hb => by
    rcases Nat.lt_or_ge i W.heap.size with e | e
    · exact ((Lib.grownBy_setCell W B j v).block i e (fun x => hb (by injection x))).trans (h.2 i hi hb)
    · have hz : (W.setCell ⟨B, j, none⟩ v).heap.size = W.heap.size := by simp
      rw [← h.2 i hi hb, Array.getElem?_eq_none e, Array.getElem?_eq_none (by omega)]⟩
theorem KB.cell {n₁ B : Nat} {V W : World} (h : KB n₁ B V W) {p : Addr} (hp : p.block < n₁) (hb : p.block ≠ B) : W.cell? p = V.cell? p := by
  have := h.2 p.block hp hb
  unfold World.cell?
  rw [this]
set_option maxRecDepth 100000 in
set_option maxHeartbeats 2000000 in
theorem pieces1_k (F : Fence) (n : Nat) (h7 : F.fn 157) (hro : F.round = none) (hn : 1 ≤ n) (l B1 B2 : Nat) (Kp : World → World → Prop) (hKr : ∀ W, Kp W W) (hKt : ∀ {A B C : World}, Kp A B → Kp B C → Kp A C) (s : Int) (A : Option Addr) (c : Nat) (E : List Int) (hl : E.length ≤ 4611686018427387904) (J Jx : List (Fin E.length) → World → Prop)
    (hY : ∀ pre x W, J pre W → pre.length < E.length → YieldAt F (n - 1) Try.prog l (encP s E x) W fun e W' =>
      (e = .returned (.bool true) ∧ J (pre ++ [x]) W' ∧ Kp W W') ∨ (e = .returned (.bool false) ∧ Jx (pre ++ [x]) W'))
    (W : World) (hB1 : W.cell? ⟨B1, 0, none⟩ = some (.int .i64 s)) (hB2 : W.cell? ⟨B2, 0, none⟩ = some (.slice A E.length c))
    (hE : ∀ W', Kp W W' → ∀ j, j < E.length → ∃ b o, A = some ⟨b, o, none⟩ ∧ W'.cell? ⟨b, o + j, none⟩ = some (.int .i64 (ng E j))) (h0 : J [] W) :
    CallsIn F n Try.prog 157 #[.func (.yield l) #[] #[], .pointer (some ⟨B1, 0, none⟩), .pointer (some ⟨B2, 0, none⟩)] W fun e W' => (∃ v, e = .returned v) ∧
      ((∃ ys, ys = pcs E.length E.length ∧ J ys W') ∨ (∃ pre, (∃ k, k ≤ E.length ∧ pre = pcs E.length k) ∧ Jx pre W')) := by
  refine callsIn_of_wp Try.func157 rfl h7 ?_ hro
  simp only [Try.ntmps157, List.size_toArray, List.length_cons, List.length_nil, Nat.reduceAdd, Nat.reduceSub, Array.replicate_succ, Array.replicate_zero, List.push_toArray, List.append_toArray, List.nil_append, List.cons_append]
  gi_wp2
  clear hB1 hB2
  gi_loopw [4, 10] (fun f i wr => ∃ k : Nat, k ≤ E.length ∧ f = .int .i64 (frm s E k) ∧ i = .int .i64 k ∧ J (pcs E.length k) wr ∧ Kp W wr) (fun _ i _ => E.length - (intOf i).toNat)
  case atStart => exact ⟨0, Nat.zero_le _, rfl, rfl, by rw [pcs_zero]; exact h0, hKr _⟩
  case round =>
    obtain ⟨k, hk, rfl, rfl, hJs, hnx⟩ := hrel
    by_cases hlt : k < E.length
    · obtain ⟨b, o, rfl, hc'⟩ := hE wr hnx k hlt
      obtain ⟨fn, tmps, assign, body, hy, hR⟩ := hY _ ⟨k, hlt⟩ wr hJs (by rw [pcs_len hk]; exact hlt)
      dsimp only [encP] at hy
      gi_wp2
      refine hR.mono ?_
      rintro e W3 (⟨rfl, hJ3, hk3⟩ | ⟨rfl, hJx3⟩)
      · gi_wp2
        go_roundw
        case rel => exact ⟨k + 1, by omega, by rw [frm_succ], by simp, by rw [pcs_succ hlt]; exact hJ3, hKt hnx hk3⟩
        case measure => simp [intOf]; omega
      · gi_wp2
        refine bodyPost_ret (results_none rfl _ _ _) rfl ?_
        exact ⟨⟨_, rfl⟩, .inr ⟨_, ⟨k + 1, by omega, (pcs_succ hlt).symm⟩, hJx3⟩⟩
    · obtain rfl : k = E.length := by omega
      gi_wp2
      go_end0
      exact ⟨⟨_, rfl⟩, .inl ⟨_, rfl, hJs⟩⟩
end Go.Proofs.Ytafddofajfcffaa

/- The iterator over pieces as one whose values come in a known order. -/
namespace Go.Proofs.Ytafddofajfcffaa
open Go.ChangeShapes Go.WideShapes Go.ChangeAt Go.RowKit Go.Shelf
set_option linter.unusedVariables false
attribute [local go_sem] Oper.semAt_some

abbrev encN (s : Int) (E : List Int) (k : Nat) : Array Value := #[.int .i64 (frm s E k), .int .i64 (ng E k)]
set_option maxRecDepth 100000 in
set_option maxHeartbeats 2000000 in
theorem piecesN_in (F : Fence) (n : Nat) (h7 : F.fn 157) (hro : F.round = none) (hn : 1 ≤ n) (l B1 B2 n₀ : Nat) (s : Int) (A : Option Addr) (c : Nat) (E : List Int) (hl : E.length ≤ 4611686018427387904) (J : Nat → World → Prop)
    (hY : ∀ k W1, k < E.length → J k W1 → YieldAt F (n - 1) Try.prog l (encN s E k) W1 fun e W' => e = .returned (.bool true) ∧ J (k + 1) W' ∧ Below n₀ W1 W')
    (W : World) (hB1 : W.cell? ⟨B1, 0, none⟩ = some (.int .i64 s)) (hB2 : W.cell? ⟨B2, 0, none⟩ = some (.slice A E.length c))
    (hE : ∀ j, j < E.length → ∃ b o, A = some ⟨b, o, none⟩ ∧ b < n₀ ∧ W.cell? ⟨b, o + j, none⟩ = some (.int .i64 (ng E j))) (h0 : J 0 W) :
    CallsIn F n Try.prog 157 #[.func (.yield l) #[] #[], .pointer (some ⟨B1, 0, none⟩), .pointer (some ⟨B2, 0, none⟩)] W fun e W' => (∃ v, e = .returned v) ∧ J E.length W' := by
  refine callsIn_of_wp Try.func157 rfl h7 ?_ hro
  simp only [Try.ntmps157, List.size_toArray, List.length_cons, List.length_nil, Nat.reduceAdd, Nat.reduceSub, Array.replicate_succ, Array.replicate_zero, List.push_toArray, List.append_toArray, List.nil_append, List.cons_append]
  gi_wp2
  clear hB1 hB2
  gi_loopw [4, 10] (fun f i wr => ∃ k : Nat, k ≤ E.length ∧ f = .int .i64 (frm s E k) ∧ i = .int .i64 k ∧ J k wr ∧ Below n₀ W wr) (fun _ i _ => E.length - (intOf i).toNat)
  case atStart => exact ⟨0, Nat.zero_le _, rfl, rfl, h0, Below.refl _ _⟩
  case round =>
    obtain ⟨k, hk, rfl, rfl, hJs, hnx⟩ := hrel
    by_cases hlt : k < E.length
    · obtain ⟨b, o, rfl, hb, hc⟩ := hE k hlt
      have hc' := (hnx.cell (p := ⟨b, o + k, none⟩) hb).trans hc
      obtain ⟨fn, tmps, assign, body, hy, hR⟩ := hY k wr hlt hJs
      dsimp only [encN] at hy
      clear hc
      gi_wp2
      refine hR.mono ?_
      rintro e W3 ⟨rfl, hJ3, hk3⟩
      gi_wp2
      go_roundw
      case rel => exact ⟨k + 1, by omega, by rw [frm_succ], by simp, hJ3, hnx.trans hk3⟩
      case measure => simp [intOf]; omega
    · obtain rfl : k = E.length := by omega
      gi_wp2
      go_end0
      exact ⟨⟨_, rfl⟩, hJs⟩
theorem pieces_seq (F : Fence) (n : Nat) (h7 : F.fn 157) (hro : F.round = none) (hn : 1 ≤ n) (B1 B2 n₀ : Nat) (s : Int) (A : Option Addr) (c : Nat) (E : List Int) (hl : E.length ≤ 4611686018427387904) (w : World) (hb1 : B1 < w.heap.size) (hb2 : B2 < w.heap.size) (hn₀ : n₀ ≤ w.heap.size)
    (hB1 : w.cell? ⟨B1, 0, none⟩ = some (.int .i64 s)) (hB2 : w.cell? ⟨B2, 0, none⟩ = some (.slice A E.length c))
    (hE : ∀ j, j < E.length → ∃ b o, A = some ⟨b, o, none⟩ ∧ b < n₀ ∧ w.cell? ⟨b, o + j, none⟩ = some (.int .i64 (ng E j))) :
    SeqN F n Try.prog 157 #[.pointer (some ⟨B1, 0, none⟩), .pointer (some ⟨B2, 0, none⟩)] (encN s E) (Below n₀) E.length w := fun l J W hW _ hY h0 =>
  piecesN_in F n h7 hro hn l B1 B2 n₀ s A c E hl J hY W ((hW.cell (p := ⟨B1, 0, none⟩) hb1).trans hB1) ((hW.cell (p := ⟨B2, 0, none⟩) hb2).trans hB2)
    (fun j hj => by
      obtain ⟨b, o, e, hb, hc⟩ := hE j hj
      exact ⟨b, o, e, hb, (hW.cell (p := ⟨b, o + j, none⟩) (Nat.lt_of_lt_of_le hb hn₀)).trans hc⟩) h0
end Go.Proofs.Ytafddofajfcffaa
