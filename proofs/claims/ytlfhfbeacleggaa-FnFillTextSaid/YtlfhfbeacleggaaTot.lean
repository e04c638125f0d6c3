/- The sum of the costs of pieces. -/
import Derived.Test.YtlfhfbeacleggaaRf
import Derived.Test.YtlfhfbeacleggaaWr
namespace Go.Proofs.Ytlfhfbeacleggaa
open Go.ChangeShapes Go.WideShapes Go.ChangeAt Go.RowKit Go.Shelf
set_option linter.unusedVariables false
attribute [local go_sem] Oper.semAt_some

theorem keeps_below {W W' : World} (h : Below W.heap.size W W') : KeepsOthers W W' := ⟨h.size, fun k o hk _ => (h.block k (Array.getElem?_eq_some_iff.1 hk).1).trans hk⟩
/-- The sum of f over the first k numbers. -/
def sto (f : Nat → Int) : Nat → Int
  | 0 => 0
  | k + 1 => sto f k + f k
theorem sto_congr {f g : Nat → Int} : ∀ {k : Nat}, (∀ j, j < k → f j = g j) → sto f k = sto g k
  | 0, _ => rfl
  | k + 1, h => by simp only [sto]; rw [sto_congr (fun j hj => h j (by omega)), h k (by omega)]
theorem sto_bd {f : Nat → Int} {M : Int} : ∀ {k : Nat}, (∀ j, j < k → -M ≤ f j ∧ f j ≤ M) → -(M * k) ≤ sto f k ∧ sto f k ≤ M * k
  | 0, _ => by simp [sto]
  | k + 1, h => by
    have a := sto_bd (k := k) (fun j hj => h j (by omega))
    have b := h k (by omega)
    simp only [sto]
    rw [show (((k + 1 : Nat) : Int)) = (k : Int) + 1 by omega, Int.mul_add, Int.mul_one]
    omega
section
variable (s : Int) (E : List Int) (C : Nat → Int → Int → Int × Bool)
/-- What piece number x costs as the j-th. -/
def cAt (j : Nat) (x : Fin E.length) : Int × Bool := C j (frm s E x.val) (ng E x.val)
/-- All of a list of pieces are allowed. -/
def okP (l : List (Fin E.length)) : Prop := ∀ j (h : j < l.length), (cAt s E C j l[j]).2 = true
/-- Their sum. -/
def cO (j : Nat) : Option (Fin E.length) → Int
  | some x => (cAt s E C j x).1
  | none => 0
def sumP (l : List (Fin E.length)) : Int := sto (fun j => cO s E C j l[j]?) l.length
end
variable {s : Int} {E : List Int} {C : Nat → Int → Int → Int × Bool}
theorem okP_bad {l : List (Fin E.length)} {x : Fin E.length} (hx : (cAt s E C l.length x).2 = false) : ¬ okP s E C (l ++ [x]) := fun h => by
  have := h l.length (by simp)
  rw [List.getElem_append_right (Nat.le_refl _)] at this
  simp only [Nat.sub_self, List.getElem_singleton] at this
  rw [hx] at this
  cases this
theorem sumP_bd {M : Int} (hM : ∀ j p q, -M ≤ (C j p q).1 ∧ (C j p q).1 ≤ M) {l : List (Fin E.length)} : -(M * l.length) ≤ sumP s E C l ∧ sumP s E C l ≤ M * l.length := by
  have hM0 : 0 ≤ M := by have := hM 0 0 0; omega
  unfold sumP
  refine sto_bd fun j hj => ?_
  rw [List.getElem?_eq_getElem hj]
  exact hM _ _ _
theorem okP_nil : okP s E C [] := fun j h => by simp at h
theorem okP_snoc {l : List (Fin E.length)} {x : Fin E.length} (h : okP s E C l) (hx : (cAt s E C l.length x).2 = true) : okP s E C (l ++ [x]) := fun j hj => by
  rw [List.length_append] at hj
  simp at hj
  rcases (by omega : j < l.length ∨ j = l.length) with e | e
  · rw [List.getElem_append_left e]; exact h j e
  · subst e
    rw [List.getElem_append_right (Nat.le_refl _)]
    simpa using hx
theorem sumP_nil : sumP s E C [] = 0 := rfl
theorem sumP_snoc {l : List (Fin E.length)} {x : Fin E.length} : sumP s E C (l ++ [x]) = sumP s E C l + (cAt s E C l.length x).1 := by
  unfold sumP
  rw [show (l ++ [x]).length = l.length + 1 by simp]
  simp only [sto]
  congr 1
  · apply sto_congr
    intro j hj
    rw [List.getElem?_append_left hj]
  · simp [cO]
/-- What totalCost answers. -/
def okT (s : Int) (E : List Int) (C : Nat → Int → Int → Int × Bool) (k : Nat) : Prop := ∀ j, j < k → (C j (frm s E j) (ng E j)).2 = true
noncomputable def toO (s : Int) (E : List Int) (C : Nat → Int → Int → Int × Bool) : Int × Bool :=
  open Classical in if okT s E C E.length then (sto (fun j => (C j (frm s E j) (ng E j)).1) E.length, true) else (0, false)
theorem toO_yes (h : okT s E C E.length) : toO s E C = (sto (fun j => (C j (frm s E j) (ng E j)).1) E.length, true) := by
  unfold toO; rw [if_pos h]
theorem toO_no (h : ¬ okT s E C E.length) : toO s E C = (0, false) := by
  unfold toO; rw [if_neg h]
theorem pcs_at {n k j : Nat} (hk : k ≤ n) (hj : j < (pcs n k).length) : ((pcs n k)[j]).val = j := by
  simp [pcs]
theorem okP_pcs {k : Nat} (hk : k ≤ E.length) : okP s E C (pcs E.length k) ↔ okT s E C k := by
  constructor
  · intro h j hj
    have := h j (by rw [pcs_len hk]; exact hj)
    unfold cAt at this
    rwa [pcs_at hk] at this
  · intro h j hj
    unfold cAt
    rw [pcs_at hk]
    exact h j (by rwa [pcs_len hk] at hj)
theorem sumP_pcs {k : Nat} (hk : k ≤ E.length) : sumP s E C (pcs E.length k) = sto (fun j => (C j (frm s E j) (ng E j)).1) k := by
  unfold sumP
  rw [pcs_len hk]
  apply sto_congr
  intro j hj
  rw [List.getElem?_eq_getElem (by rw [pcs_len hk]; exact hj)]
  show (cAt s E C j _).1 = _
  unfold cAt
  rw [pcs_at hk]
set_option maxRecDepth 100000 in
set_option maxHeartbeats 4000000 in
theorem total_wrapped (w : World) (A : Option Addr) (c : Nat) (E : List Int) (hE : IL w A E.length E) (hl : E.length ≤ 1048576) (s : Int) (C : Nat → Int → Int → Int × Bool) (q1 q2 : Value) (hM : ∀ j p q, -8000000000 ≤ (C j p q).1 ∧ (C j p q).1 ≤ 8000000000)
    (HC : ∀ (u : World), Below w.heap.size w u → ∀ (i : Nat) (x : Fin E.length), Calls Try.prog 147 #[.int .i64 i, .int .i64 (frm s E x.val), .int .i64 (ng E x.val), q1, q2] u fun e u' => e = .returned (.tuple #[.int .i64 (C i (frm s E x.val) (ng E x.val)).1, .bool (C i (frm s E x.val) (ng E x.val)).2]) ∧ Below u.heap.size u u') :
    Calls Try.prog 175 #[.int .i64 s, .slice A E.length c, .func (.func 147) #[] #[q1, q2]] w fun e w' => e = .returned (.tuple #[.int .i64 (toO s E C).1, .bool (toO s E C).2]) ∧ Below w.heap.size w w' := by
  have HHC := hide HC
  clear HC
  refine (callsIn_wide (n := 5)).1 ?_
  refine callsIn_of_wp_marks Try.func175 rfl trivial ?_ rfl
  simp only [Try.ntmps175, List.size_toArray, List.length_cons, List.length_nil, Nat.reduceAdd, Nat.reduceSub, Array.replicate_succ, Array.replicate_zero, List.push_toArray, List.append_toArray, List.nil_append, List.cons_append]
  gi_wp2_with (refine ⟨trivial, ?_⟩; gi_at_call 79; refine (callsIn_wide.2 (piecesOf_i s A E.length c _)).mono ?_; rintro e w' ⟨rfl, rfl⟩)
  have c5 : (((((((w.alloc (.cells #[.func (.func 147) #[] #[q1, q2]] 101)).alloc (.cells #[.int .i64 0] 3)).alloc (.cells #[.bool false] 4)).alloc (.cells #[.int .i64 0] 3)).alloc (.cells #[.int .i64 0] 3)).alloc (.cells #[.int .i64 s] 3)).alloc (.cells #[.slice A E.length c] 32)).cell? ⟨w.heap.size, 0, none⟩ = some (.func (.func 147) #[] #[q1, q2]) := by simp [go_sem]
  have c6 : (((((((w.alloc (.cells #[.func (.func 147) #[] #[q1, q2]] 101)).alloc (.cells #[.int .i64 0] 3)).alloc (.cells #[.bool false] 4)).alloc (.cells #[.int .i64 0] 3)).alloc (.cells #[.int .i64 0] 3)).alloc (.cells #[.int .i64 s] 3)).alloc (.cells #[.slice A E.length c] 32)).cell? ⟨w.heap.size + 1, 0, none⟩ = some (.int .i64 0) := by simp [go_sem]
  have f6 : (((((((w.alloc (.cells #[.func (.func 147) #[] #[q1, q2]] 101)).alloc (.cells #[.int .i64 0] 3)).alloc (.cells #[.bool false] 4)).alloc (.cells #[.int .i64 0] 3)).alloc (.cells #[.int .i64 0] 3)).alloc (.cells #[.int .i64 s] 3)).alloc (.cells #[.slice A E.length c] 32)).frozen? ⟨w.heap.size + 1, 0, none⟩ = false := by simp [go_sem]
  have c7 : (((((((w.alloc (.cells #[.func (.func 147) #[] #[q1, q2]] 101)).alloc (.cells #[.int .i64 0] 3)).alloc (.cells #[.bool false] 4)).alloc (.cells #[.int .i64 0] 3)).alloc (.cells #[.int .i64 0] 3)).alloc (.cells #[.int .i64 s] 3)).alloc (.cells #[.slice A E.length c] 32)).cell? ⟨w.heap.size + 1 + 1, 0, none⟩ = some (.bool false) := by simp [go_sem]
  have f7 : (((((((w.alloc (.cells #[.func (.func 147) #[] #[q1, q2]] 101)).alloc (.cells #[.int .i64 0] 3)).alloc (.cells #[.bool false] 4)).alloc (.cells #[.int .i64 0] 3)).alloc (.cells #[.int .i64 0] 3)).alloc (.cells #[.int .i64 s] 3)).alloc (.cells #[.slice A E.length c] 32)).frozen? ⟨w.heap.size + 1 + 1, 0, none⟩ = false := by simp [go_sem]
  have c8 : (((((((w.alloc (.cells #[.func (.func 147) #[] #[q1, q2]] 101)).alloc (.cells #[.int .i64 0] 3)).alloc (.cells #[.bool false] 4)).alloc (.cells #[.int .i64 0] 3)).alloc (.cells #[.int .i64 0] 3)).alloc (.cells #[.int .i64 s] 3)).alloc (.cells #[.slice A E.length c] 32)).cell? ⟨w.heap.size + 1 + 1 + 1, 0, none⟩ = some (.int .i64 0) := by simp [go_sem]
  have f8 : (((((((w.alloc (.cells #[.func (.func 147) #[] #[q1, q2]] 101)).alloc (.cells #[.int .i64 0] 3)).alloc (.cells #[.bool false] 4)).alloc (.cells #[.int .i64 0] 3)).alloc (.cells #[.int .i64 0] 3)).alloc (.cells #[.int .i64 s] 3)).alloc (.cells #[.slice A E.length c] 32)).frozen? ⟨w.heap.size + 1 + 1 + 1, 0, none⟩ = false := by simp [go_sem]
  have c9 : (((((((w.alloc (.cells #[.func (.func 147) #[] #[q1, q2]] 101)).alloc (.cells #[.int .i64 0] 3)).alloc (.cells #[.bool false] 4)).alloc (.cells #[.int .i64 0] 3)).alloc (.cells #[.int .i64 0] 3)).alloc (.cells #[.int .i64 s] 3)).alloc (.cells #[.slice A E.length c] 32)).cell? ⟨w.heap.size + 1 + 1 + 1 + 1, 0, none⟩ = some (.int .i64 0) := by simp [go_sem]
  have f9 : (((((((w.alloc (.cells #[.func (.func 147) #[] #[q1, q2]] 101)).alloc (.cells #[.int .i64 0] 3)).alloc (.cells #[.bool false] 4)).alloc (.cells #[.int .i64 0] 3)).alloc (.cells #[.int .i64 0] 3)).alloc (.cells #[.int .i64 s] 3)).alloc (.cells #[.slice A E.length c] 32)).frozen? ⟨w.heap.size + 1 + 1 + 1 + 1, 0, none⟩ = false := by simp [go_sem]
  have c10 : (((((((w.alloc (.cells #[.func (.func 147) #[] #[q1, q2]] 101)).alloc (.cells #[.int .i64 0] 3)).alloc (.cells #[.bool false] 4)).alloc (.cells #[.int .i64 0] 3)).alloc (.cells #[.int .i64 0] 3)).alloc (.cells #[.int .i64 s] 3)).alloc (.cells #[.slice A E.length c] 32)).cell? ⟨w.heap.size + 1 + 1 + 1 + 1 + 1, 0, none⟩ = some (.int .i64 s) := by simp [go_sem]
  have c11 : (((((((w.alloc (.cells #[.func (.func 147) #[] #[q1, q2]] 101)).alloc (.cells #[.int .i64 0] 3)).alloc (.cells #[.bool false] 4)).alloc (.cells #[.int .i64 0] 3)).alloc (.cells #[.int .i64 0] 3)).alloc (.cells #[.int .i64 s] 3)).alloc (.cells #[.slice A E.length c] 32)).cell? ⟨w.heap.size + 1 + 1 + 1 + 1 + 1 + 1, 0, none⟩ = some (.slice A E.length c) := by simp [go_sem]
  have hz0 : (((((((w.alloc (.cells #[.func (.func 147) #[] #[q1, q2]] 101)).alloc (.cells #[.int .i64 0] 3)).alloc (.cells #[.bool false] 4)).alloc (.cells #[.int .i64 0] 3)).alloc (.cells #[.int .i64 0] 3)).alloc (.cells #[.int .i64 s] 3)).alloc (.cells #[.slice A E.length c] 32)).heap.size = w.heap.size + 7 := by simp
  have hB0 : Below w.heap.size w (((((((w.alloc (.cells #[.func (.func 147) #[] #[q1, q2]] 101)).alloc (.cells #[.int .i64 0] 3)).alloc (.cells #[.bool false] 4)).alloc (.cells #[.int .i64 0] 3)).alloc (.cells #[.int .i64 0] 3)).alloc (.cells #[.int .i64 s] 3)).alloc (.cells #[.slice A E.length c] 32)) := by
    repeat' (first | exact bl_refl _ | refine bl_alloc ?_ _)
  obtain ⟨W0, hW0⟩ : ∃ W0, W0 = (((((((w.alloc (.cells #[.func (.func 147) #[] #[q1, q2]] 101)).alloc (.cells #[.int .i64 0] 3)).alloc (.cells #[.bool false] 4)).alloc (.cells #[.int .i64 0] 3)).alloc (.cells #[.int .i64 0] 3)).alloc (.cells #[.int .i64 s] 3)).alloc (.cells #[.slice A E.length c] 32)) := ⟨_, rfl⟩
  rw [← hW0] at c5 c6 f6 c7 f7 c8 f8 c9 f9 c10 c11 hz0 hB0 ⊢
  clear hW0
  have hEE : ∀ j, j < E.length → ∃ b o, A = some ⟨b, o, none⟩ ∧ b < w.heap.size ∧ W0.cell? ⟨b, o + j, none⟩ = some (.int .i64 (ng E j)) := fun j hj => by
    obtain ⟨b, o, e, hb, hc⟩ := hE.at_ hj
    have hbl : b < w.heap.size := World.block_lt_of_cell? w _ hc
    exact ⟨b, o, e, hbl, (hB0.cell (p := ⟨b, o + j, none⟩) hbl).trans hc⟩
  refine wpIn_rangeFunc_ownG (F := Fence.wide) (n := 5) rfl (by decide) (gf := 139) (lb := #[.pointer (some ⟨w.heap.size + 1 + 1 + 1 + 1 + 1, 0, none⟩), .pointer (some ⟨w.heap.size + 1 + 1 + 1 + 1 + 1 + 1, 0, none⟩)]) rfl trivial (enters_of Try.func139 (by kernel_rfl) rfl)
    (pieces_stops Fence.wide 4 trivial rfl (by decide) (w.heap.size + 1 + 1 + 1 + 1 + 1) (w.heap.size + 1 + 1 + 1 + 1 + 1 + 1) w.heap.size s A c E (by omega) W0 (by omega) (by omega) (by omega) c10 c11 hEE) belowK_t (belowK_b (by omega)) (Below.refl _ _) (fun _ => rfl)
    (fun pre W => (okP s E C pre ∧ (W.cell? ⟨w.heap.size, 0, none⟩ = some (.func (.func 147) #[] #[q1, q2]) ∧ (W.cell? ⟨w.heap.size + 1, 0, none⟩ = some (.int .i64 0) ∧ W.frozen? ⟨w.heap.size + 1, 0, none⟩ = false) ∧ (W.cell? ⟨w.heap.size + 1 + 1, 0, none⟩ = some (.bool false) ∧ W.frozen? ⟨w.heap.size + 1 + 1, 0, none⟩ = false) ∧ (W.cell? ⟨w.heap.size + 1 + 1 + 1, 0, none⟩ = some (.int .i64 pre.length) ∧ W.frozen? ⟨w.heap.size + 1 + 1 + 1, 0, none⟩ = false) ∧ (W.cell? ⟨w.heap.size + 1 + 1 + 1 + 1, 0, none⟩ = some (.int .i64 (sumP s E C pre)) ∧ W.frozen? ⟨w.heap.size + 1 + 1 + 1 + 1, 0, none⟩ = false) ∧ w.heap.size + 7 ≤ W.heap.size)) ∧ Below w.heap.size w W)
    (fun c pre W => (c = .ret ∧ ¬ okP s E C pre ∧ W.cell? ⟨w.heap.size + 1, 0, none⟩ = some (.int .i64 0) ∧ W.cell? ⟨w.heap.size + 1 + 1, 0, none⟩ = some (.bool false)) ∧ Below w.heap.size w W)
    (OwnFrom.and (Own.from (fun s' A' B' row hs hg hr => ⟨hs.1, cell_kept hs.2.1 hg hr, ⟨cell_kept hs.2.2.1.1 hg hr, (frozen_kept hs.2.2.1.1 hg hr).trans hs.2.2.1.2⟩, ⟨cell_kept hs.2.2.2.1.1 hg hr, (frozen_kept hs.2.2.2.1.1 hg hr).trans hs.2.2.2.1.2⟩, ⟨cell_kept hs.2.2.2.2.1.1 hg hr, (frozen_kept hs.2.2.2.2.1.1 hg hr).trans hs.2.2.2.2.1.2⟩, ⟨cell_kept hs.2.2.2.2.2.1.1 hg hr, (frozen_kept hs.2.2.2.2.2.1.1 hg hr).trans hs.2.2.2.2.2.1.2⟩, Nat.le_trans hs.2.2.2.2.2.2 hg.size⟩) _) (ownFrom_below (Nat.le_refl _) (by omega)))
    (fun c => OwnFrom.and (Own.from (fun s' A' B' row hs hg hr => ⟨hs.1, hs.2.1, cell_kept hs.2.2.1 hg hr, cell_kept hs.2.2.2 hg hr⟩) _) (ownFrom_below (Nat.le_refl _) (by omega)))
    ⟨⟨okP_nil, c5, ⟨c6, f6⟩, ⟨c7, f7⟩, ⟨c8, f8⟩, ⟨c9, f9⟩, by omega⟩, hB0⟩
    (fun x => { tmps := #[.int .i64 s, .slice A E.length c, .func (.func 147) #[] #[q1, q2], undef, undef, .pointer (some ⟨w.heap.size, 0, none⟩), .pointer (some ⟨w.heap.size + 1, 0, none⟩), .pointer (some ⟨w.heap.size + 1 + 1, 0, none⟩), .pointer (some ⟨w.heap.size + 1 + 1 + 1, 0, none⟩), .pointer (some ⟨w.heap.size + 1 + 1 + 1 + 1, 0, none⟩), .int .i64 (frm s E x.val), .int .i64 (ng E x.val), undef, undef, .int .i64 s, .slice A E.length c, .func (.func 139) #[] #[.pointer (some ⟨w.heap.size + 1 + 1 + 1 + 1 + 1, 0, none⟩), .pointer (some ⟨w.heap.size + 1 + 1 + 1 + 1 + 1 + 1, 0, none⟩)], .int .i64 (frm s E x.val), .int .i64 (ng E x.val), undef, undef, undef, undef, undef, undef, undef, undef, undef, undef, undef, undef, undef, undef, undef, undef], defers := [] }) ?assign ?body ?done ?stop
  case assign =>
    intro l x W K hK
    gi_wp2
    exact hK
  case body =>
    rintro l pre x W ⟨⟨hok, c5, ⟨c6, f6⟩, ⟨c7, f7⟩, ⟨c8, f8⟩, ⟨c9, f9⟩, hzW⟩, hB⟩ hlen
    have hd : (1 : Nat) ≤ 5 - 1 - 1 := by decide
    have HCx := HHC.out W hB pre.length x
    have hsb := sumP_bd (s := s) (E := E) (C := C) hM (l := pre)
    have hpl : pre.length ≤ 1048576 := by omega
    have hmb := hM pre.length (frm s E x.val) (ng E x.val)
    have YES := hide (fun (h : (C pre.length (frm s E x.val) (ng E x.val)).2 = true) => okP_snoc (x := x) hok h)
    have NO := hide (fun (h : (C pre.length (frm s E x.val) (ng E x.val)).2 = false) => okP_bad (s := s) (E := E) (C := C) (l := pre) (x := x) h)
    have SN := hide (sumP_snoc (s := s) (E := E) (C := C) (l := pre) (x := x))
    unfold cAt at SN
    obtain ⟨v, hv⟩ : ∃ v, v = (C pre.length (frm s E x.val) (ng E x.val)).1 := ⟨_, rfl⟩
    obtain ⟨fl, hfl⟩ : ∃ v, v = (C pre.length (frm s E x.val) (ng E x.val)).2 := ⟨_, rfl⟩
    rw [← hv, ← hfl] at HCx
    rw [← hv] at SN hmb
    rw [← hfl] at YES NO
    obtain ⟨m, hm⟩ : ∃ m, m = sumP s E C pre := ⟨_, rfl⟩
    rw [← hm] at c9 hsb SN
    have HCC := hide HCx
    have l1 : w.heap.size + 1 < W.heap.size := by omega
    have l2 : w.heap.size + 1 + 1 < W.heap.size := by omega
    have l3 : w.heap.size + 1 + 1 + 1 < W.heap.size := by omega
    have l4 : w.heap.size + 1 + 1 + 1 + 1 < W.heap.size := by omega
    have ws : IntKind.i64.wrap (m + v) = m + v := IntWalk.i64_in _ (by omega)
    have wn : IntKind.i64.wrap ((pre.length : Int) + 1) = (pre.length : Int) + 1 := IntWalk.i64_in _ (by omega)
    clear HCx hv hfl hm hok hsb hmb
    cases fl
    · have NO' := hide (NO.out rfl)
      clear YES NO SN
      gi_wp2_with (refine ⟨trivial, ?_⟩; gi_at_call 147; refine (CallsIn.inRound l (callsIn_wide.2 HCC.out)).mono ?_; rintro e W2 ⟨rfl, hb⟩; have c5 := keep_cell hb c5; have c6 := keep_cell hb c6; have c7 := keep_cell hb c7; have c8 := keep_cell hb c8; have c9 := keep_cell hb c9; have f6 := (hb.frozen (p := ⟨w.heap.size + 1, 0, none⟩) l1).trans f6; have f7 := (hb.frozen (p := ⟨w.heap.size + 1 + 1, 0, none⟩) l2).trans f7; have f8 := (hb.frozen (p := ⟨w.heap.size + 1 + 1 + 1, 0, none⟩) l3).trans f8; have f9 := (hb.frozen (p := ⟨w.heap.size + 1 + 1 + 1 + 1, 0, none⟩) l4).trans f9)
      exact ⟨(((keeps_below hb).trans (KeepsOthers.setCell _ _ _)).trans (KeepsOthers.setCell _ _ _)).from _, ⟨rfl, NO'.out, by simp [go_sem, c6, c7], by simp [go_sem, c6, c7]⟩, bl_set (bl_set (bl_call hb hB) (show w.heap.size ≤ w.heap.size + 1 by omega) _) (show w.heap.size ≤ w.heap.size + 1 + 1 by omega) _⟩
    · have OK' := hide (YES.out rfl)
      clear YES NO
      gi_wp2_with (refine ⟨trivial, ?_⟩; gi_at_call 147; refine (CallsIn.inRound l (callsIn_wide.2 HCC.out)).mono ?_; rintro e W2 ⟨rfl, hb⟩; have c5 := keep_cell hb c5; have c6 := keep_cell hb c6; have c7 := keep_cell hb c7; have c8 := keep_cell hb c8; have c9 := keep_cell hb c9; have f6 := (hb.frozen (p := ⟨w.heap.size + 1, 0, none⟩) l1).trans f6; have f7 := (hb.frozen (p := ⟨w.heap.size + 1 + 1, 0, none⟩) l2).trans f7; have f8 := (hb.frozen (p := ⟨w.heap.size + 1 + 1 + 1, 0, none⟩) l3).trans f8; have f9 := (hb.frozen (p := ⟨w.heap.size + 1 + 1 + 1 + 1, 0, none⟩) l4).trans f9)
      have hlen1 : (pre ++ [x]).length = pre.length + 1 := by simp
      have hzz := hb.size
      refine ⟨(((keeps_below hb).trans (KeepsOthers.setCell _ _ _)).trans (KeepsOthers.setCell _ _ _)).from _, ((hb.mono hB.size).setCell (p := ⟨w.heap.size + 1 + 1 + 1, 0, none⟩) (show w.heap.size ≤ w.heap.size + 1 + 1 + 1 by omega) _).setCell (p := ⟨w.heap.size + 1 + 1 + 1 + 1, 0, none⟩) (show w.heap.size ≤ w.heap.size + 1 + 1 + 1 + 1 by omega) _, ⟨OK'.out, by simp [go_sem, c5], ⟨by simp [go_sem, c6], by simp [go_sem, f6]⟩, ⟨by simp [go_sem, c7], by simp [go_sem, f7]⟩, ⟨by rw [hlen1]; simp [go_sem, c8, c9], by simp [go_sem, f8]⟩, ⟨by rw [SN.out]; simp [go_sem, c8, c9], by simp [go_sem, f9]⟩, by simp; omega⟩, bl_set (bl_set (bl_call hb hB) (show w.heap.size ≤ w.heap.size + 1 + 1 + 1 by omega) _) (show w.heap.size ≤ w.heap.size + 1 + 1 + 1 + 1 by omega) _⟩
  case done =>
    rintro D ys W hD rfl ⟨⟨hok, c5, ⟨c6, f6⟩, ⟨c7, f7⟩, ⟨c8, f8⟩, ⟨c9, f9⟩, hzW⟩, hB⟩ hK
    have hT := hide (toO_yes ((okP_pcs (Nat.le_refl _)).1 hok))
    rw [← sumP_pcs (Nat.le_refl _)] at hT
    obtain ⟨m, hm⟩ : ∃ m, m = sumP s E C (pcs E.length E.length) := ⟨_, rfl⟩
    rw [← hm] at c9 hT
    clear hm hok
    gi_wp2
    have hp7 : (W.setCell ⟨w.heap.size + 1, 0, none⟩ (.int .i64 m)).cell? ⟨w.heap.size + 1 + 1, 0, none⟩ = some (.bool false) := by simp [go_sem, c7]
    have hK' := ((KeepsOthers.setCell W ⟨w.heap.size + 1, 0, none⟩ (.int .i64 m)).trans (KeepsOthers.setCell _ ⟨w.heap.size + 1 + 1, 0, none⟩ (.bool true))).same D _ hK rfl
    refine ⟨by simp, .inl ⟨_, _, rfl, run_takeDeferred hK', ?_⟩⟩
    have a6 : ((W.setCell ⟨w.heap.size + 1, 0, none⟩ (.int .i64 m)).setCell ⟨w.heap.size + 1 + 1, 0, none⟩ (.bool true)).cell? ⟨w.heap.size + 1, 0, none⟩ = some (.int .i64 m) := by simp [go_sem, c6]
    have a7 : ((W.setCell ⟨w.heap.size + 1, 0, none⟩ (.int .i64 m)).setCell ⟨w.heap.size + 1 + 1, 0, none⟩ (.bool true)).cell? ⟨w.heap.size + 1 + 1, 0, none⟩ = some (.bool true) := by simp [go_sem, c7]
    have h6 := cell_kept a6 (grownBy_putObj' _ D (.deferred none)) (fun r e => by cases e; exact ⟨_, hK', rfl⟩)
    have h7 := cell_kept a7 (grownBy_putObj' _ D (.deferred none)) (fun r e => by cases e; exact ⟨_, hK', rfl⟩)
    refine ⟨.tuple #[.int .i64 m, .bool true], ?_, by rw [hT.out], (bl_set (bl_set hB (show w.heap.size ≤ w.heap.size + 1 by omega) _) (show w.heap.size ≤ w.heap.size + 1 + 1 by omega) _).trans (belowK_b (w := W0) (by omega) _ D _ _ hD hK' rfl rfl)⟩
    simp [results, Try.f175, go_sem, h6, h7]
  case stop =>
    rintro D c pre W hD ⟨k, hk, rfl⟩ ⟨⟨rfl, hno, c6, c7⟩, hB⟩ hK
    have hT := hide (toO_no (s := s) (E := E) (C := C) (fun h => hno ((okP_pcs hk).2 (fun j hj => h j (by omega)))))
    clear hno
    gi_wp2
    refine ⟨by simp, .inl ⟨_, _, rfl, run_takeDeferred hK, ?_⟩⟩
    have h6 := cell_kept c6 (grownBy_putObj' _ D (.deferred none)) (fun r e => by cases e; exact ⟨_, hK, rfl⟩)
    have h7 := cell_kept c7 (grownBy_putObj' _ D (.deferred none)) (fun r e => by cases e; exact ⟨_, hK, rfl⟩)
    refine ⟨.tuple #[.int .i64 0, .bool false], ?_, by rw [hT.out], hB.trans (belowK_b (w := W0) (by omega) W D _ _ hD hK rfl rfl)⟩
    simp [results, Try.f175, go_sem, h6, h7]
end Go.Proofs.Ytlfhfbeacleggaa
