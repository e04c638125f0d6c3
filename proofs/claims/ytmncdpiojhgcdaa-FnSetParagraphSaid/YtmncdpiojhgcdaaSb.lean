/- Several texts of one claim, one behind the other. -/
import Derived.Test.YtmncdpiojhgcdaaRows
import Derived.Test.YtmncdpiojhgcdaaSa
import Derived.Deep.Slices
import Derived.Lib.SmallJoins
import Derived.LoopTactic
import Derived.Deep.RegionWith
import Derived.Deep.RegionHeld3
import Derived.Deep.RegionLaw
import Derived.Deep.CutRange
import Derived.RangeFuncWrites
import Derived.Deep.LoopGhost
import Derived.WalkKit
import Derived.OwnWalkIn
import Derived.TacticsInMore
import Derived.LoopNIn
import Derived.LoopIn
import Derived.Stop.RegionWithIn
/- Contracts of the functions of glue: each returns what its text computes and writes nothing that was there. -/
namespace Go.Proofs.Ytmncdpiojhgcdaa
open Go.ChangeShapes Go.WideShapes Go.ChangeAt Go.RowKit

abbrev gv (a b c : Int) : Value := .agg #[.int .i64 a, .int .i64 b, .int .i64 c]

/-- Whether a number lies between two others. -/
def inB (n l h : Int) : Bool := decide (l ≤ n ∧ n ≤ h)
theorem inB_yes {n l h : Int} (a : l ≤ n) (b : n ≤ h) : inB n l h = true := by simp [inB]; omega
theorem inB_no {n l h : Int} (a : ¬ (l ≤ n ∧ n ≤ h)) : inB n l h = false := by simp [inB]; omega
theorem inB_iff {n l h : Int} : inB n l h = true ↔ l ≤ n ∧ n ≤ h := by simp [inB]

theorem within_any (n l h : Int) (w : World) :
    Calls Try.prog 113 #[.int .i64 n, .int .i64 l, .int .i64 h] w fun e w' => e = .returned (.bool (inB n l h)) ∧ w = w' := by
  by_cases h1 : l ≤ n <;> by_cases h2 : n ≤ h
  all_goals
    go_enter Try.func113, Try.ntmps113
    go_wp2
    go_ret
    exact ⟨bool_ret (by simp [inB, *]), rfl⟩

theorem inRange_any (n l h : Int) (w : World) :
    Calls Try.prog 62 #[.int .i64 n, .int .i64 l, .int .i64 h] w fun e w' => e = .returned (.bool (inB n l h)) ∧ w = w' := by
  by_cases h1 : l ≤ n <;> by_cases h2 : n ≤ h
  all_goals
    go_enter Try.func62, Try.ntmps62
    go_wp2
    go_ret
    exact ⟨bool_ret (by simp [inB, *]), rfl⟩

/-- Whether glue is valid. -/
def vg (a b c : Int) : Bool := inB a (-10000) 10000 && inB b 0 10000 && inB c 0 10000
theorem vg_iff {a b c : Int} : vg a b c = true ↔ (-10000 ≤ a ∧ a ≤ 10000) ∧ (0 ≤ b ∧ b ≤ 10000) ∧ (0 ≤ c ∧ c ≤ 10000) := by simp [vg, inB]; omega

theorem valid_any (a b c : Int) (w : World) :
    Calls Try.prog 153 #[gv a b c] w fun e w' => e = .returned (.bool (vg a b c)) ∧ Below w.heap.size w w' := by
  go_enter Try.func153, Try.ntmps153
  go_wp2_with (go_at_call 113; refine (within_any _ _ _ _).mono ?_; rintro e w' ⟨rfl, rfl⟩)
  all_goals
    go_ret
    refine ⟨bool_ret (by simp [vg, *]), bl_alloc (bl_refl _) _⟩


def bad (n h : Int) : Int := if n = 0 then 0 else if h = 0 then 10000 else min (100 * n * n * n / (h * h * h)) 10000
theorem bad_zero (h : Int) : bad 0 h = 0 := by simp [bad]
theorem bad_none (n : Int) (hn : n ≠ 0) : bad n 0 = 10000 := by simp [bad, hn]
theorem bad_big (n h : Int) (h0 : 0 < h) (hn : 5 * h < n) : bad n h = 10000 := by
  have hne : n ≠ 0 := by omega
  have hh : h ≠ 0 := by omega
  rw [bad, if_neg hne, if_neg hh]
  have h3 : 0 < h * h * h := Int.mul_pos (Int.mul_pos h0 h0) h0
  have e1 : (5 * h) * (5 * h) ≤ n * n := Int.mul_le_mul (by omega) (by omega) (by omega) (by omega)
  have e2 : (5 * h) * (5 * h) * (5 * h) ≤ n * n * n := Int.mul_le_mul e1 (by omega) (by omega) (Int.mul_nonneg (by omega) (by omega))
  have e3 : (5 * h) * (5 * h) * (5 * h) = 125 * (h * h * h) := by
    simp only [Int.mul_assoc, Int.mul_left_comm h]; omega
  have e4 : 100 * n * n * n = 100 * (n * n * n) := by simp only [Int.mul_assoc]
  have : 10000 ≤ 100 * n * n * n / (h * h * h) := by
    rw [Int.le_ediv_iff_mul_le h3]; omega
  omega
theorem cube_bd (n M : Int) (h0 : 0 ≤ n) (hM : n ≤ M) : 0 ≤ n * n ∧ n * n ≤ M * M ∧ 0 ≤ n * n * n ∧ n * n * n ≤ M * M * M := by
  have a := Int.mul_nonneg h0 h0
  have b : n * n ≤ M * M := Int.mul_le_mul hM hM h0 (by omega)
  exact ⟨a, b, Int.mul_nonneg a h0, Int.mul_le_mul b hM h0 (by have := Int.mul_nonneg (Int.le_trans h0 hM) (Int.le_trans h0 hM); omega)⟩
theorem cube_100 (n : Int) : 100 * n * n = 100 * (n * n) ∧ 100 * n * n * n = 100 * (n * n * n) := by simp only [Int.mul_assoc, and_self]

theorem badnessOf_any (n h : Int) (w : World) (n0 : 0 ≤ n) (n1 : n ≤ 20000) (h0 : 0 ≤ h) (h1 : h ≤ 10000) :
    Calls Try.prog 154 #[.int .i64 n, .int .i64 h] w fun e w' => e = .returned (.int .i64 (bad n h)) ∧ w = w' := by
  obtain ⟨a1, a2, a3, a4⟩ := cube_bd n 20000 n0 n1
  obtain ⟨b1, b2, b3, b4⟩ := cube_bd h 10000 h0 h1
  obtain ⟨c1, c2⟩ := cube_100 n
  have d1 : 0 ≤ 100 * n * n := by omega
  have d2 : 100 * n * n ≤ 40000000000 := by omega
  have d3 : 0 ≤ 100 * n * n * n := by omega
  have d4 : 100 * n * n * n ≤ 800000000000000 := by omega
  clear c1 c2
  by_cases z : n = 0
  · subst z
    go_enter Try.func154, Try.ntmps154
    go_wp2
    go_ret
    exact ⟨int_ret (bad_zero h).symm, rfl⟩
  · by_cases y : h = 0
    · subst y
      go_enter Try.func154, Try.ntmps154
      go_wp2
      go_ret
      exact ⟨int_ret (bad_none n z).symm, rfl⟩
    · have hp : 0 < h * h * h := Int.mul_pos (Int.mul_pos (by omega) (by omega)) (by omega)
      have e : bad n h = min (100 * n * n * n / (h * h * h)) 10000 := by simp [bad, z, y]
      have E := Lib.hid e; clear e
      go_enter Try.func154, Try.ntmps154
      go_wp2
      all_goals
        go_ret
        exact ⟨int_ret (by rw [E.out]; omega), rfl⟩

theorem badness_s (n h : Int) (w : World) (n0 : 0 ≤ n) (n1 : n ≤ 20000) (h0 : 0 ≤ h) (h1 : h ≤ 10000) :
    Calls Try.prog 147 #[.int .i64 n, .int .i64 h] w fun e w' => e = .returned (.int .i64 (bad n h)) ∧ w = w' := by
  obtain ⟨a1, a2, a3, a4⟩ := cube_bd n 20000 n0 n1
  obtain ⟨b1, b2, b3, b4⟩ := cube_bd h 10000 h0 h1
  obtain ⟨c1, c2⟩ := cube_100 n
  have d1 : 0 ≤ 100 * n * n := by omega
  have d2 : 100 * n * n ≤ 40000000000 := by omega
  have d3 : 0 ≤ 100 * n * n * n := by omega
  have d4 : 100 * n * n * n ≤ 800000000000000 := by omega
  clear c1 c2
  by_cases z : n = 0
  · subst z
    go_enter Try.func147, Try.ntmps147
    go_wp2
    go_ret
    exact ⟨int_ret (bad_zero h).symm, rfl⟩
  · by_cases y : h = 0
    · subst y
      go_enter Try.func147, Try.ntmps147
      go_wp2
      go_ret
      exact ⟨int_ret (bad_none n z).symm, rfl⟩
    · have hp : 0 < h * h * h := Int.mul_pos (Int.mul_pos (by omega) (by omega)) (by omega)
      by_cases x : 5 * h < n
      · go_enter Try.func147, Try.ntmps147
        go_wp2
        go_ret
        exact ⟨int_ret (bad_big n h (by omega) x).symm, rfl⟩
      · have e : bad n h = min (100 * n * n * n / (h * h * h)) 10000 := by simp [bad, z, y]
        have E := Lib.hid e; clear e
        go_enter Try.func147, Try.ntmps147
        go_wp2
        all_goals
          go_ret
          exact ⟨int_ret (by rw [E.out]; omega), rfl⟩

/-- What Badness returns. -/
def badv (n h : Int) : Int := if inB n 0 10000 && inB h 0 10000 then bad n h else -1



theorem plus_i (a b c x y z : Int) (w : World) (h1 : -10000 ≤ a ∧ a ≤ 10000) (h2 : 0 ≤ b ∧ b ≤ 10000) (h3 : 0 ≤ c ∧ c ≤ 10000) (k1 : -10000 ≤ x ∧ x ≤ 10000) (k2 : 0 ≤ y ∧ y ≤ 10000) (k3 : 0 ≤ z ∧ z ≤ 10000) :
    Calls Try.prog 111 #[gv a b c, gv x y z] w fun e w' => e = .returned (gv (a + x) (b + y) (c + z)) ∧ Below w.heap.size w w' := by
  obtain ⟨h1, h1'⟩ := h1; obtain ⟨h2, h2'⟩ := h2; obtain ⟨h3, h3'⟩ := h3
  obtain ⟨k1, k1'⟩ := k1; obtain ⟨k2, k2'⟩ := k2; obtain ⟨k3, k3'⟩ := k3
  go_enter Try.func111, Try.ntmps111
  go_wp2
  refine bodyPost_ret (v := gv (a + x) (b + y) (c + z)) (by simp [results, Try.results111, go_sem]) rfl ⟨rfl, ?_⟩
  repeat' (first | exact bl_refl _ | refine bl_alloc ?_ _ | refine bl_set ?_ ?_ _ | refine bl_call (by assumption) ?_)
  all_goals (simp; try omega)

theorem addGlue_s (a b c x y z : Int) (w : World) (h1 : -10000 ≤ a ∧ a ≤ 10000) (h2 : 0 ≤ b ∧ b ≤ 10000) (h3 : 0 ≤ c ∧ c ≤ 10000) (k1 : -10000 ≤ x ∧ x ≤ 10000) (k2 : 0 ≤ y ∧ y ≤ 10000) (k3 : 0 ≤ z ∧ z ≤ 10000) :
    Calls Try.prog 143 #[gv a b c, gv x y z] w fun e w' => e = .returned (gv (a + x) (b + y) (c + z)) ∧ Below w.heap.size w w' := by
  obtain ⟨h1, h1'⟩ := h1; obtain ⟨h2, h2'⟩ := h2; obtain ⟨h3, h3'⟩ := h3
  obtain ⟨k1, k1'⟩ := k1; obtain ⟨k2, k2'⟩ := k2; obtain ⟨k3, k3'⟩ := k3
  go_enter Try.func143, Try.ntmps143
  go_wp2
  refine bodyPost_ret (v := gv (a + x) (b + y) (c + z)) (by simp [results, Try.results143, go_sem]) rfl ⟨rfl, ?_⟩
  repeat' (first | exact bl_refl _ | refine bl_alloc ?_ _ | refine bl_set ?_ ?_ _ | refine bl_call (by assumption) ?_)
  all_goals (simp; try omega)



/-- What AddGlue returns. -/
def addOk (a b c x y z : Int) : Bool := vg a b c && vg x y z && vg (a + x) (b + y) (c + z)
def addv (a b c x y z : Int) : Value := if addOk a b c x y z then .tuple #[gv (a + x) (b + y) (c + z), .bool true] else .tuple #[gv 0 0 0, .bool false]

end Go.Proofs.Ytmncdpiojhgcdaa

/- Types that hold integers, booleans and texts alone: what a slice of them reads as. They speak of no program. -/
namespace Go.Proofs.Ytmncdpiojhgcdaa
open Go.ChangeShapes Go.WideShapes Go.ChangeAt Go.RowKit
set_option linter.unusedVariables false

/-- What one cell may hold. -/
inductive CK where
  | int (k : IntKind)
  | bool
  | str
def okCell : CK → Value → Prop
  | .int k, v => ∃ n, v = .int k n ∧ (Lit.int k n).wf = true
  | .bool, v => ∃ b, v = .bool b
  | .str, v => ∃ s : ByteArray, v = .string s ∧ s.size ≤ maxLen
def okCells : List CK → List Value → Prop
  | [], [] => True
  | k :: ks, v :: vs => okCell k v ∧ okCells ks vs
  | _, _ => False
theorem okCells.append {a b : List CK} {x y : List Value} (h : okCells a x) (k : okCells b y) : okCells (a ++ b) (x ++ y) := by
  induction a generalizing x with
  | nil => cases x with
    | nil => exact k
    | cons v x => cases h
  | cons c a ih => cases x with
    | nil => cases h
    | cons v x => exact ⟨h.1, ih h.2⟩
theorem okCells.length {a : List CK} {x : List Value} (h : okCells a x) : x.length = a.length := by
  induction a generalizing x with
  | nil => cases x with
    | nil => rfl
    | cons v x => cases h
  | cons c a ih => cases x with
    | nil => cases h
    | cons v x => simp [ih h.2]

theorem okCells.cons {k : CK} {ks : List CK} {x : List Value} (h : okCells (k :: ks) x) : ∃ v vs, x = v :: vs ∧ okCell k v ∧ okCells ks vs := by
  cases x with
  | nil => cases h
  | cons v vs => exact ⟨v, vs, rfl, h.1, h.2⟩
theorem okCells.done {x : List Value} (h : okCells [] x) : x = [] := by
  cases x with
  | nil => rfl
  | cons v vs => cases h

def flatFs (P : Program) (g : TypeId → Option (List CK)) : List Field → Nat → Option (List CK)
  | [], _ => some []
  | fd :: fs, off => match g fd.type with
    | none => none
    | some ks => if fd.offset = off ∧ P.cellsOf fd.type = ks.length then (flatFs P g fs (off + ks.length)).map (ks ++ ·) else none
/-- The kinds of a type's cells, if it holds nothing else. -/
def flat (P : Program) : Nat → TypeId → Option (List CK)
  | 0, _ => none
  | f + 1, t => match P.underlying t with
    | some .bool => some [.bool]
    | some (.int k) => some [.int k]
    | some .string => some [.str]
    | some (.struct fs) => match flatFs P (flat P f) fs.toList 0 with
      | some ks => if P.cellsOf t = ks.length then some ks else none
      | none => none
    | _ => none

section
variable {H : Type} {enc : TypeId × Value → H} {P : Program} {w : World} {base : Nat} {sp : Nat → Bool} {held : Bool}
theorem flatFs_ok {g : TypeId → Option (List CK)} {n : Nat} {cs : List Value} (ih : ∀ t ks cs x, g t = some ks → DataW.trod enc P w base sp held n t cs = some x → okCells ks cs) {l : List Field} {off : Nat} {ks : List CK} (h : flatFs P g l off = some ks)
    (hl : ∀ fd ∈ l, ∃ y, DataW.trod enc P w base sp held n fd.type ((cs.drop fd.offset).take (P.cellsOf fd.type)) = some y) : okCells ks ((cs.drop off).take ks.length) := by
  induction l generalizing off ks with
  | nil => simp [flatFs] at h; subst h; simp [okCells]
  | cons fd fs ihl =>
    simp only [flatFs] at h
    cases hg : g fd.type with
    | none => simp [hg] at h
    | some k1 =>
      simp only [hg] at h
      split at h
      · rename_i hc
        obtain ⟨ho, hcl⟩ := hc
        cases h2 : flatFs P g fs (off + k1.length) with
        | none => simp [h2] at h
        | some k2 =>
          rw [h2] at h
          simp at h
          subst h
          obtain ⟨y, hy⟩ := hl fd (List.mem_cons_self ..)
          have a := ih _ _ _ _ hg hy
          rw [ho, hcl] at a
          have b := ihl h2 (fun fd' hfd => hl fd' (List.mem_cons_of_mem _ hfd))
          have := a.append b
          rw [List.length_append, List.take_add, List.drop_drop]
          exact this
      · cases h
theorem flat_ok {f n : Nat} {t : TypeId} {ks : List CK} {cs : List Value} {x : DataW H × List MemPlace} (h : flat P f t = some ks) (hx : DataW.trod enc P w base sp held n t cs = some x) : okCells ks cs := by
  induction f generalizing t ks cs x n with
  | zero => cases h
  | succ f ih =>
    unfold flat at h
    split at h
    · rename_i hu
      injection h with h; subst h
      obtain ⟨b, rfl, _⟩ := DataW.trod_bool hu hx
      exact ⟨⟨b, rfl⟩, trivial⟩
    · rename_i hu
      injection h with h; subst h
      obtain ⟨b, rfl, _, hw⟩ := DataW.trod_int hu hx
      exact ⟨⟨b, rfl, hw⟩, trivial⟩
    · rename_i hu
      injection h with h; subst h
      obtain ⟨b, rfl, _, hw⟩ := DataW.trod_string hu hx
      exact ⟨⟨b, rfl, hw⟩, trivial⟩
    · rename_i fs hu
      obtain ⟨xs, m, rfl, _, hlen, hxl, hall⟩ := DataW.trod_struct hu hx
      cases hf : flatFs P (flat P f) fs.toList 0 with
      | none => simp [hf] at h
      | some k1 =>
        simp only [hf] at h
        split at h
        · rename_i hc
          injection h with h; subst h
          have := flatFs_ok (n := m) (cs := cs) (fun t ks cs x h1 h2 => ih h1 h2) hf (fun fd hfd => by
            obtain ⟨i, hi, e⟩ := List.getElem_of_mem hfd
            have hi' : i < fs.size := by simpa using hi
            have e2 : fs[i]? = some fd := by rw [Array.getElem?_eq_getElem hi', ← e]; simp
            have e3 := hall i fd e2
            rw [List.getElem?_eq_getElem (by omega)] at e3
            exact ⟨_, e3⟩)
          rw [List.drop_zero, ← hc, ← hlen, List.take_length] at this
          exact this
        · cases h
    · cases h

/-- A slice of such a type that came in: each element's cells. -/
theorem flat_slice {t e : TypeId} {f : Nat} {ks : List CK} {a : Option Addr} {n c : Nat} {d : DataW H} {p : List MemPlace} (ht : P.underlying t = some (.slice e)) (hk : flat P f e = some ks) (hm : P.cellsOf e = ks.length) (h0 : 0 < ks.length)
    (h : DataW.Trod enc P w base sp held t (.slice a n c) d p) : n ≤ maxLen ∧ (0 < n → ∃ b o, a = some ⟨b, o, none⟩ ∧ b < w.heap.size ∧ ∀ i, i < n → ∃ cs, okCells ks cs ∧ ∀ j, j < ks.length → w.cell? ⟨b, o + i * ks.length + j, none⟩ = cs[j]?) := by
  obtain ⟨fuel, hf⟩ := h
  simp only [Value.cells, List.toList_toArray] at hf
  rcases Go.Deep.open_slice ht hf with ⟨he, _⟩ | ⟨ad, len, cap, m, n', D, Pl, he, hb, hl, hcm, hmm, _, hall⟩
  · simp at he
    obtain ⟨_, rfl, _⟩ := he
    exact ⟨Nat.zero_le _, fun h => by omega⟩
  · simp at he
    obtain ⟨rfl, rfl, rfl⟩ := he
    have hm1 : n ≤ m := by rw [hmm]; split <;> omega
    refine ⟨by omega, fun hn => ?_⟩
    have hcell : ∀ i, i < n → ∃ cs, okCells ks cs ∧ ∀ j, j < ks.length → w.cell? (ad.add (i * ks.length + j)) = cs[j]? := by
      intro i hi
      obtain ⟨cs, h1, h2⟩ := hall i (by omega)
      have ok := flat_ok hk h2
      refine ⟨cs, ok, fun j hj => ?_⟩
      rw [hm] at h1
      obtain ⟨_, hl2, h3⟩ := World.cells?_some h1
      rw [← Go.Deep.add_add]
      exact h3 j hj
    obtain ⟨b, o, spot⟩ := ad
    obtain ⟨cs0, ok0, hc0⟩ := hcell 0 hn
    have e0 := hc0 0 h0
    rw [List.getElem?_eq_getElem (by rw [ok0.length]; exact h0)] at e0
    have hspot : spot = none := by simpa [Addr.add] using World.cell?_spot e0
    subst hspot
    refine ⟨b, o, rfl, World.block_lt_of_cell? w _ (by simpa [Addr.add] using e0), fun i hi => ?_⟩
    obtain ⟨cs, ok, hc⟩ := hcell i hi
    refine ⟨cs, ok, fun j hj => ?_⟩
    rw [← hc j hj]
    congr 1
    generalize i * ks.length = q
    by_cases h0 : q + j = 0
    · obtain rfl : q = 0 := by omega
      obtain rfl : j = 0 := by omega
      simp [Addr.add]
    · unfold Addr.add
      rw [if_neg h0]
      simp only [Nat.add_assoc]
end

/-- A record: its cells. -/
class Rec (α : Type) where
  size : Nat
  pos : 0 < size
  cells : α → List Value
  len : ∀ a, (cells a).length = size
  dflt : α
/-- The k-th record. -/
def tg {α : Type} [Rec α] (L : List α) (k : Nat) : α := L.getD k Rec.dflt
/-- A slice that reads as a list of records. -/
def TL {α : Type} [Rec α] (w : World) (A : Option Addr) (n : Nat) (L : List α) : Prop :=
  n = L.length ∧ (0 < n → ∃ b o, A = some ⟨b, o, none⟩ ∧ b < w.heap.size ∧ ∀ i, i < n → ∀ j, j < Rec.size α → w.cell? ⟨b, o + i * Rec.size α + j, none⟩ = (Rec.cells (tg L i))[j]?)
/-- A slice of records that the call made. -/
def TO {α : Type} [Rec α] (w : World) (e : TypeId) (B : Nat) (A : Option Addr) (c : Nat) (L : List α) : Prop := w.ownsRow B e (Rec.size α) (.slice A L.length c) L.length (L.flatMap Rec.cells)

section
variable {α : Type} [Rec α]
theorem tg_lt {L : List α} {k : Nat} (h : k < L.length) : tg L k = L[k] := by simp [tg, List.getD, List.getElem?_eq_getElem h]
theorem tg_get {L : List α} {k : Nat} (h : k < L.length) : L[k]? = some (tg L k) := by rw [tg_lt h, List.getElem?_eq_getElem h]
theorem tg_mem {L : List α} {k : Nat} (h : k < L.length) : tg L k ∈ L := by rw [tg_lt h]; exact List.getElem_mem h
theorem flat_len (L : List α) : (L.flatMap Rec.cells).length = L.length * Rec.size α := by
  induction L with
  | nil => simp
  | cons a L ih => simp [ih, Rec.len, Nat.add_mul]; omega
theorem flat_get (L : List α) {i j : Nat} (hi : i < L.length) (hj : j < Rec.size α) : (L.flatMap Rec.cells)[i * Rec.size α + j]? = (Rec.cells (tg L i))[j]? := by
  induction L generalizing i with
  | nil => simp at hi
  | cons a L ih =>
    have hl := Rec.len a
    cases i with
    | zero => simp [tg, List.getElem?_append_left (show j < (Rec.cells a).length by omega)]
    | succ i =>
      rw [List.flatMap_cons, List.getElem?_append_right (by rw [hl, Nat.add_mul]; omega), hl, show (i + 1) * Rec.size α + j - Rec.size α = i * Rec.size α + j from by rw [Nat.add_mul]; omega]
      rw [ih (by simpa using hi)]
      rfl
/-- The first k records, then cells that are not yet written. -/
theorem TL.at_ {w : World} {A : Option Addr} {n : Nat} {L : List α} (h : TL w A n L) {i : Nat} (hi : i < n) : ∃ b o, A = some ⟨b, o, none⟩ ∧ b < w.heap.size ∧ ∀ j, j < Rec.size α → w.cell? ⟨b, o + i * Rec.size α + j, none⟩ = (Rec.cells (tg L i))[j]? := by
  obtain ⟨b, o, e, hb, hc⟩ := h.2 (by omega)
  exact ⟨b, o, e, hb, hc i hi⟩
theorem TL.nil (w : World) (A : Option Addr) : TL w A 0 ([] : List α) := ⟨rfl, fun h => by omega⟩
theorem TL.below {w w' : World} {A : Option Addr} {n : Nat} {L : List α} (h : TL w A n L) (hb : Below w.heap.size w w') : TL w' A n L :=
  ⟨h.1, fun h0 => by
    obtain ⟨b, o, e, hl, hc⟩ := h.2 h0
    exact ⟨b, o, e, Nat.lt_of_lt_of_le hl hb.size, fun i hi j hj => ((hb.cell (p := ⟨b, o + i * Rec.size α + j, none⟩) hl)).trans (hc i hi j hj)⟩⟩
theorem TL.alloc {w : World} {A : Option Addr} {n : Nat} {L : List α} (h : TL w A n L) (o : Obj) : TL (w.alloc o) A n L := h.below (bl_alloc (bl_refl _) _)
theorem TL.drewN {w : World} {A : Option Addr} {n : Nat} {L : List α} (h : TL w A n L) (k : Nat) : TL (w.drewN k) A n L := h
theorem TL.drew {w : World} {A : Option Addr} {n : Nat} {L : List α} (h : TL w A n L) : TL w.drew A n L := h

variable {w w' : World} {A : Option Addr} {c B B' : Nat} {e : TypeId} {L : List α}
theorem TO.drewN (h : TO w e B A c L) (k : Nat) : TO (w.drewN k) e B A c L := h
theorem TO.drew (h : TO w e B A c L) : TO w.drew e B A c L := h
theorem own_more {size n : Nat} {v : Value} {xs : List Value} (h : w.ownsRow B e size v n xs) (hB : B' ≤ B) : w.ownsRow B' e size v n xs := by
  refine ⟨h.1, ?_⟩
  rcases h.2 with h0 | ⟨g, cap, cur, h1, h2, h3⟩
  · exact .inl h0
  · exact .inr ⟨g, cap, cur, h1, by omega, h3⟩
theorem own_below {size n : Nat} {v : Value} {xs : List Value} (h : w.ownsRow B e size v n xs) (hb : Below w.heap.size w w') : w'.ownsRow B e size v n xs := by
  refine ⟨h.1, ?_⟩
  rcases h.2 with h0 | ⟨g, cap, cur, h1, h2, h3, h4⟩
  · exact .inl h0
  · refine .inr ⟨g, cap, cur, h1, h2, ?_, h4⟩
    rw [hb.block g (Array.getElem?_eq_some_iff.1 h3).1]
    exact h3
theorem TO.more (h : TO w e B A c L) (hB : B' ≤ B) : TO w e B' A c L := own_more h hB
theorem TO.below (h : TO w e B A c L) (hb : Below w.heap.size w w') : TO w' e B A c L := own_below h hb
theorem TO.alloc (h : TO w e B A c L) (o : Obj) : TO (w.alloc o) e B A c L := h.below (bl_alloc (bl_refl _) _)
theorem TO.own_lt (h : TO w e B A c L) : ∀ k, (Value.slice A L.length c).ownBlock = some k → B ≤ k ∧ k < w.heap.size := fun k hk => World.ownsRow.lt h k hk
theorem TO.kept {row : Option Nat} (h : TO w e B A c L) (hg : w.grownBy w' row) (hne : ∀ k, (Value.slice A L.length c).ownBlock = some k → row ≠ some k) : TO w' e B A c L := by
  refine World.ownsRow.kept h hg ?_
  cases hv : (Value.slice A L.length c).ownBlock with
  | none => exact .inl rfl
  | some k => exact .inr (fun e => hne k hv e.symm)
theorem TO.nil (w : World) (e : TypeId) (B : Nat) : TO w e B none 0 ([] : List α) := World.ownsRow_nil _ _ _ _
theorem own_form {size n : Nat} {xs : List Value} (h : w.ownsRow B e size (.slice A n c) n xs) (h0 : 0 < n) : ∃ g, A = some ⟨g, 0, none⟩ ∧ B ≤ g ∧ g < w.heap.size ∧ n ≤ c ∧ c ≤ maxLen := by
  rcases h.2 with ⟨_, h1⟩ | ⟨g, cap, cur, h1, h2, h3, h4, h5, _⟩
  · omega
  · injection h1 with h1 _ h6
    subst h6
    exact ⟨g, h1, h2, (Array.getElem?_eq_some_iff.1 h3).1, h4, h5⟩
theorem TO.form (h : TO w e B A c L) (h0 : 0 < L.length) : ∃ g, A = some ⟨g, 0, none⟩ ∧ B ≤ g ∧ g < w.heap.size ∧ L.length ≤ c ∧ c ≤ maxLen := own_form h h0
theorem TO.len (h : TO w e B A c L) : L.length ≤ maxLen := by
  rcases Nat.eq_zero_or_pos L.length with h0 | h0
  · omega
  · obtain ⟨_, _, _, _, h1, h2⟩ := h.form h0
    omega
theorem TO.reads (h : TO w e B A c L) : TL w A L.length L := by
  refine ⟨rfl, fun h0 => ?_⟩
  obtain ⟨g, rfl, _, hg, _⟩ := h.form h0
  refine ⟨g, 0, rfl, hg, fun i hi j hj => ?_⟩
  have hlt : i * Rec.size α + j < L.length * Rec.size α := by
    have : (i + 1) * Rec.size α ≤ L.length * Rec.size α := Nat.mul_le_mul_right _ hi
    rw [Nat.add_mul] at this
    omega
  have := World.ownsRow.cellAt h (i * Rec.size α + j) hlt
  rw [Nat.zero_add, this, flat_get L hi hj]
theorem TO.frozen (h : TO w e B A c L) (h0 : 0 < L.length) : ∃ g, A = some ⟨g, 0, none⟩ ∧ B ≤ g ∧ g < w.heap.size ∧ ∀ i, w.frozen? ⟨g, i, none⟩ = false := by
  obtain ⟨g, rfl, h1, hg, _⟩ := h.form h0
  exact ⟨g, rfl, h1, hg, fun i => World.ownsRow.frozenAt h i⟩
theorem TO.apart {u : World} {e' : TypeId} {d : Nat} {A' : Option Addr} {m : Nat} {size : Nat} {xs : List Value} (h : TO w e B A c L) (h' : u.ownsRow w.heap.size e' size (.slice A' m d) m xs) : ∀ k, (Value.slice A L.length c).ownBlock = some k → (Value.slice A' m d).ownBlock ≠ some k := fun k hk hk' => by
  have h1 := (h.own_lt k hk).2
  have h2 := (World.ownsRow.lt h' k hk').1
  omega
/-- All cells of records' rows, in flat form: those of the first k records are written. -/
def vmix (l m : List Value) (k : Nat) : List Value := l.take k ++ m.drop k
theorem vmix_zero (l m : List Value) : vmix l m 0 = m := by simp [vmix]
theorem vmix_all {l m : List Value} {n : Nat} (h : m.length = l.length) (hn : l.length = n) : vmix l m n = l := by subst hn; rw [vmix, List.take_length, List.drop_eq_nil_of_le (by omega), List.append_nil]
theorem vmix_len {l m : List Value} (h : m.length = l.length) (k : Nat) : (vmix l m k).length = l.length := by simp [vmix]; omega
theorem vmix_put {l m : List Value} {k : Nat} {v : Value} (h : m.length = l.length) (hv : l[k]? = some v) : (vmix l m k).set k v = vmix l m (k + 1) := by
  have hk : k < l.length := (List.getElem?_eq_some_iff.1 hv).1
  apply List.ext_getElem?
  intro j
  simp only [vmix, List.getElem?_set, List.getElem?_append, List.length_append, List.length_take, List.length_drop, List.getElem?_take, List.getElem?_drop]
  by_cases hj : j = k
  · subst hj
    have e2 : j < min (j + 1) l.length := by omega
    have e3 : j < min j l.length + (m.length - j) := by omega
    simp [e2, e3, hv, show j < j + 1 from by omega]
  · by_cases hl : j < k
    · have e1 : j < min k l.length := by omega
      have e2 : j < min (k + 1) l.length := by omega
      simp [Ne.symm hj, e1, e2, hl, show j < k + 1 from by omega]
    · simp [Ne.symm hj, hl, show ¬ j < k + 1 from by omega, show min k l.length = k from by omega, show min (k + 1) l.length = k + 1 from by omega, show k + (j - k) = j from by omega, show k + 1 + (j - (k + 1)) = j from by omega]
end

/-- An item. -/
structure It where
  k : Int
  w : Int
  st : Int
  sh : Int
  p : Int
  f : Bool
abbrev itv (x : It) : Value := .agg #[.int .i64 x.k, .int .i64 x.w, .int .i64 x.st, .int .i64 x.sh, .int .i64 x.p, .bool x.f]
instance : Rec It := ⟨6, by decide, fun x => [.int .i64 x.k, .int .i64 x.w, .int .i64 x.st, .int .i64 x.sh, .int .i64 x.p, .bool x.f], fun _ => rfl, ⟨0, 0, 0, 0, 0, false⟩⟩
/-- A pair of glyphs. -/
structure Gp where
  a : Int
  b : Int
  v : Int
instance : Rec Gp := ⟨3, by decide, fun x => [.int .i64 x.a, .int .i64 x.b, .int .i64 x.v], fun _ => rfl, ⟨0, 0, 0⟩⟩
theorem TL.at6 {w : World} {A : Option Addr} {n : Nat} {L : List It} (h : TL w A n L) {i : Nat} (hi : i < n) : ∃ b o, A = some ⟨b, o, none⟩ ∧ b < w.heap.size ∧ w.cell? ⟨b, o + i * 6, none⟩ = some (.int .i64 (tg L i).k) ∧ w.cell? ⟨b, o + i * 6 + 1, none⟩ = some (.int .i64 (tg L i).w) ∧
    w.cell? ⟨b, o + i * 6 + 2, none⟩ = some (.int .i64 (tg L i).st) ∧ w.cell? ⟨b, o + i * 6 + 3, none⟩ = some (.int .i64 (tg L i).sh) ∧ w.cell? ⟨b, o + i * 6 + 4, none⟩ = some (.int .i64 (tg L i).p) ∧ w.cell? ⟨b, o + i * 6 + 5, none⟩ = some (.bool (tg L i).f) := by
  obtain ⟨b, o, e, hb, hc⟩ := h.at_ hi
  exact ⟨b, o, e, hb, hc 0 (by decide), hc 1 (by decide), hc 2 (by decide), hc 3 (by decide), hc 4 (by decide), hc 5 (by decide)⟩
theorem TL.at3 {w : World} {A : Option Addr} {n : Nat} {L : List Gp} (h : TL w A n L) {i : Nat} (hi : i < n) : ∃ b o, A = some ⟨b, o, none⟩ ∧ b < w.heap.size ∧ w.cell? ⟨b, o + i * 3, none⟩ = some (.int .i64 (tg L i).a) ∧ w.cell? ⟨b, o + i * 3 + 1, none⟩ = some (.int .i64 (tg L i).b) ∧ w.cell? ⟨b, o + i * 3 + 2, none⟩ = some (.int .i64 (tg L i).v) := by
  obtain ⟨b, o, e, hb, hc⟩ := h.at_ hi
  exact ⟨b, o, e, hb, hc 0 (by decide), hc 1 (by decide), hc 2 (by decide)⟩

/-- A slice of items that came in. -/
theorem items_in {H : Type} {enc : TypeId × Value → H} {P : Program} {w : World} {base : Nat} {sp : Nat → Bool} {held : Bool} {t e : TypeId} {a : Option Addr} {n c : Nat} {d : DataW H} {p : List MemPlace} (ht : P.underlying t = some (.slice e))
    (hk : flat P 5 e = some [.int .i64, .int .i64, .int .i64, .int .i64, .int .i64, .bool]) (hm : P.cellsOf e = 6) (h : DataW.Trod enc P w base sp held t (.slice a n c) d p) : ∃ L : List It, TL w a n L ∧ n ≤ maxLen ∧ ∀ x ∈ L, (Lit.int .i64 x.k).wf = true ∧ (Lit.int .i64 x.w).wf = true ∧ (Lit.int .i64 x.st).wf = true ∧ (Lit.int .i64 x.sh).wf = true ∧ (Lit.int .i64 x.p).wf = true := by
  obtain ⟨h1, h2⟩ := flat_slice ht hk hm (by decide) h
  rcases Nat.eq_zero_or_pos n with h0 | h0
  · subst h0
    exact ⟨[], TL.nil _ _, h1, fun x hx => by cases hx⟩
  · obtain ⟨b, o, rfl, hb, hall⟩ := h2 h0
    have hall2 : ∀ i, i < n → ∃ x : It, ((Lit.int .i64 x.k).wf = true ∧ (Lit.int .i64 x.w).wf = true ∧ (Lit.int .i64 x.st).wf = true ∧ (Lit.int .i64 x.sh).wf = true ∧ (Lit.int .i64 x.p).wf = true) ∧ ∀ j, j < 6 → w.cell? ⟨b, o + i * 6 + j, none⟩ = (Rec.cells x)[j]? := by
      intro i hi
      obtain ⟨cs, ok, hc⟩ := hall i hi
      obtain ⟨_, _, rfl, ⟨a1, rfl, w1⟩, k1⟩ := ok.cons
      obtain ⟨_, _, rfl, ⟨a2, rfl, w2⟩, k2⟩ := k1.cons
      obtain ⟨_, _, rfl, ⟨a3, rfl, w3⟩, k3⟩ := k2.cons
      obtain ⟨_, _, rfl, ⟨a4, rfl, w4⟩, k4⟩ := k3.cons
      obtain ⟨_, _, rfl, ⟨a5, rfl, w5⟩, k5⟩ := k4.cons
      obtain ⟨_, _, rfl, ⟨a6, rfl⟩, k6⟩ := k5.cons
      obtain rfl := k6.done
      exact ⟨⟨a1, a2, a3, a4, a5, a6⟩, ⟨w1, w2, w3, w4, w5⟩, hc⟩
    haveI : Inhabited It := ⟨⟨0, 0, 0, 0, 0, false⟩⟩
    obtain ⟨f, hf⟩ := Go.Deep.choose_lt hall2
    refine ⟨(List.range n).map f, ⟨by simp, fun _ => ⟨b, o, rfl, hb, fun i hi j hj => ?_⟩⟩, h1, fun x hx => ?_⟩
    · rw [show tg ((List.range n).map f) i = f i from by simp [tg, List.getD, hi]]
      exact (hf i hi).2 j hj
    · obtain ⟨i, hi, rfl⟩ := List.mem_map.1 hx
      exact (hf i (List.mem_range.1 hi)).1
/-- A slice of pairs of glyphs that came in. -/
theorem pairs_in {H : Type} {enc : TypeId × Value → H} {P : Program} {w : World} {base : Nat} {sp : Nat → Bool} {held : Bool} {t e : TypeId} {a : Option Addr} {n c : Nat} {d : DataW H} {p : List MemPlace} (ht : P.underlying t = some (.slice e))
    (hk : flat P 5 e = some [.int .i64, .int .i64, .int .i64]) (hm : P.cellsOf e = 3) (h : DataW.Trod enc P w base sp held t (.slice a n c) d p) : ∃ L : List Gp, TL w a n L ∧ n ≤ maxLen := by
  obtain ⟨h1, h2⟩ := flat_slice ht hk hm (by decide) h
  rcases Nat.eq_zero_or_pos n with h0 | h0
  · subst h0
    exact ⟨[], TL.nil _ _, h1⟩
  · obtain ⟨b, o, rfl, hb, hall⟩ := h2 h0
    have hall2 : ∀ i, i < n → ∃ x : Gp, ∀ j, j < 3 → w.cell? ⟨b, o + i * 3 + j, none⟩ = (Rec.cells x)[j]? := by
      intro i hi
      obtain ⟨cs, ok, hc⟩ := hall i hi
      obtain ⟨_, _, rfl, ⟨a1, rfl, w1⟩, k1⟩ := ok.cons
      obtain ⟨_, _, rfl, ⟨a2, rfl, w2⟩, k2⟩ := k1.cons
      obtain ⟨_, _, rfl, ⟨a3, rfl, w3⟩, k3⟩ := k2.cons
      obtain rfl := k3.done
      exact ⟨⟨a1, a2, a3⟩, hc⟩
    haveI : Inhabited Gp := ⟨⟨0, 0, 0⟩⟩
    obtain ⟨f, hf⟩ := Go.Deep.choose_lt hall2
    refine ⟨(List.range n).map f, ⟨by simp, fun _ => ⟨b, o, rfl, hb, fun i hi j hj => ?_⟩⟩, h1⟩
    rw [show tg ((List.range n).map f) i = f i from by simp [tg, List.getD, hi]]
    exact hf i hi j hj
end Go.Proofs.Ytmncdpiojhgcdaa

/- The laws' helpers on glue and on slices of pairs of glyphs. -/
namespace Go.Proofs.Ytmncdpiojhgcdaa
open Go.ChangeShapes Go.WideShapes Go.ChangeAt Go.RowKit
set_option linter.unusedVariables false

theorem toGlue_h (a b c : Int) (w : World) :
    Calls Try.prog 110 #[gv a b c] w fun e w' => e = .returned (gv a b c) ∧ Below w.heap.size w w' := by
  go_enter Try.func110, Try.ntmps110
  go_wp2
  refine bodyPost_ret (v := gv a b c) (by simp [results, Try.results110, go_sem, *]) rfl ⟨rfl, ?_⟩
  repeat' (first | with_reducible exact bl_refl _ | with_reducible assumption | with_reducible refine bl_alloc ?_ _ | with_reducible refine bl_set ?_ ?_ _ | with_reducible refine bl_drewN ?_ _ | with_reducible refine bl_drew ?_ | with_reducible refine bl_call (by assumption) ?_)
  all_goals (first | omega | (simp; done) | (simp; omega))
theorem eqGlue_h (a b c : Int) (w : World) :
    Calls Try.prog 123 #[gv a b c, gv a b c] w fun e w' => e = .returned (.bool true) ∧ Below w.heap.size w w' := by
  go_enter Try.func123, Try.ntmps123
  go_wp2
  go_ret
  refine ⟨rfl, ?_⟩
  repeat' (first | with_reducible exact bl_refl _ | with_reducible assumption | with_reducible refine bl_alloc ?_ _ | with_reducible refine bl_set ?_ ?_ _ | with_reducible refine bl_drewN ?_ _ | with_reducible refine bl_drew ?_ | with_reducible refine bl_call (by assumption) ?_)

/-- Three cells of an own row are stored, one behind the other. -/
theorem own_put3 {w : World} {B g n c p : Nat} {e : TypeId} {F M : List Value} {a b v : Value} (h : w.ownsRow B e 3 (.slice (some ⟨g, 0, none⟩) n c) n (vmix F M (p * 3))) (hl : M.length = F.length)
    (h0 : F[p * 3]? = some a) (h1 : F[p * 3 + 1]? = some b) (h2 : F[p * 3 + 2]? = some v) :
    (((w.setCell ⟨g, p * 3, none⟩ a).setCell ⟨g, p * 3 + 1, none⟩ b).setCell ⟨g, p * 3 + 2, none⟩ v).ownsRow B e 3 (.slice (some ⟨g, 0, none⟩) n c) n (vmix F M ((p + 1) * 3)) := by
  have s0 := (World.ownsRow.stored h (p * 3) a).1
  rw [vmix_put hl h0] at s0
  have s1 := (World.ownsRow.stored s0 (p * 3 + 1) b).1
  rw [vmix_put hl h1] at s1
  have s2 := (World.ownsRow.stored s1 (p * 3 + 2) v).1
  rw [vmix_put hl h2] at s2
  rw [show (p + 1) * 3 = p * 3 + 2 + 1 from by omega]
  exact s2
/-- A cell of an own row. -/
theorem own_cell {w : World} {B g n c size j : Nat} {e : TypeId} {xs : List Value} (h : w.ownsRow B e size (.slice (some ⟨g, 0, none⟩) n c) n xs) (hj : j < n * size) : ∃ v, w.cell? ⟨g, j, none⟩ = some v := by
  have h1 := World.ownsRow.cellAt h j hj
  rw [List.getElem?_eq_getElem (by rw [h.1]; exact hj)] at h1
  exact ⟨_, h1⟩

end Go.Proofs.Ytmncdpiojhgcdaa

/- append of one record to a slice of records that the call made. It speaks of no program. -/
namespace Go.Proofs.Ytmncdpiojhgcdaa
open Go.ChangeShapes Go.WideShapes Go.ChangeAt Go.RowKit
set_option linter.unusedVariables false

section
variable {α : Type} [Rec α]
theorem TO.of_own {w : World} {B n : Nat} {e : TypeId} {v : Value} {xs : List Value} {L : List α} (h : w.ownsRow B e (Rec.size α) v n xs) (hx : xs = L.flatMap Rec.cells) : ∃ A c, v = .slice A n c ∧ n = L.length ∧ TO w e B A c L := by
  subst hx
  have hn : n = L.length := by
    have h1 := h.1
    rw [flat_len] at h1
    exact (Nat.eq_of_mul_eq_mul_right (Rec.pos (α := α)) h1).symm
  subst hn
  rcases h.2 with ⟨rfl, h1⟩ | ⟨g, cap, cur, rfl, h2⟩
  · have := List.eq_nil_of_length_eq_zero h1
    subst this
    exact ⟨none, 0, rfl, rfl, h⟩
  · exact ⟨_, _, rfl, rfl, h⟩
theorem TO.lit0 {w : World} {e : TypeId} {B : Nat} (hB : B ≤ w.heap.size) : TO (w.alloc (.cells #[] e)) e B (some ⟨w.heap.size, 0, none⟩) 0 ([] : List α) := by
  have := World.ownsRow_lit (base := B) (e := e) (size := Rec.size α) w #[] 0 hB (by unfold maxLen; omega) (by simp)
  unfold TO
  simpa using this

theorem wpList_append_rec {P : Program} {ops : Array Oper} {rest : List Oper} {o : Oper} {a : Act} {Q : Exit → Act → World → Prop} {w : World} (hgd : o.guard = none) (s x : Operand) (t : TypeId)
    (ho : o.op = .call { callee := .builtin .append, args := #[s, x], argTypes := #[t, t] })
    (e : TypeId) (i : TypeInfo) (zv : Value) (bytes : Nat) (ht : P.underlying t = some (.slice e)) (hi : P.info? e = some i) (hz : i.zero = some zv) (hsize : i.size = Rec.size α) (hby : i.bytes = bytes) (hzs : zv.cells.size = Rec.size α) (hbl : bytes ≤ 64)
    (B : Nat) (A : Option Addr) (c n : Nat) (L : List α) (hs : a.eval s = .slice A n c) (hn : n = L.length) (hown : TO w e B A c L)
    (b : Nat) (r : α) (hx : a.eval x = .slice (some ⟨b, 0, none⟩) 1 1) (h1 : ∀ u ∈ Rec.cells r, u.oneCell' = true) (hc : ∀ j, j < Rec.size α → w.cell? ⟨b, j, none⟩ = (Rec.cells r)[j]?) (hlen : n ≤ 1000000000000) (hB : B ≤ w.heap.size)
    (h : ∀ A' c' w', TO w' e B A' c' (L ++ [r]) → Below B w w' → w.grownBy w' (Value.slice A n c).ownBlock → wpList P ops Q rest (a.put o.dst (.slice A' (n + 1) c')) w') : wpList P ops Q (o :: rest) a w := by
  subst hn
  refine wpList_append_own w hgd s x t ho B e i zv (Rec.size α) bytes ht hi hz hsize hby hzs Rec.pos _ L.length (L.flatMap Rec.cells) hs hown ⟨b, 0, none⟩ 1 1 (Rec.cells r) hx (by rw [Rec.len, Nat.one_mul]) ?_ h1 (by unfold maxLen; omega) ?_ hB ?_
  · intro j u hj
    have hj2 : j < Rec.size α := by
      have := (List.getElem?_eq_some_iff.1 hj).1
      rwa [Rec.len] at this
    rw [← hj, ← hc j hj2]
    congr 1
    by_cases h0 : j = 0 <;> simp [Addr.add, h0]
  · have : (L.length + 1) * bytes ≤ (L.length + 1) * 64 := Nat.mul_le_mul_left _ hbl
    omega
  · intro v' w' hown' hgr _
    obtain ⟨A', c', rfl, hl, hol⟩ := TO.of_own (L := L ++ [r]) hown' (by simp)
    exact h A' c' w' hol ((Below.refl _ _).grown hgr hB (fun k hk => (hown.own_lt k hk).1)) hgr
end
end Go.Proofs.Ytmncdpiojhgcdaa

/- Taking one operation of a drawn region, in few words. It speaks of no program. -/
namespace Go.Proofs.Ytmncdpiojhgcdaa

theorem tkY {P : Program} {ops : Array Oper} {Q : Exit → Act → World → Prop} {md : Region.Mode} {S : World → Prop} {i : Nat} {oi : Oper} {v : Value} {fuel : Nat} {listed : Array Bool} {a : Act} {w : World} (hi : ops[i]? = some oi)
    (hc : (Region.noSelect ops && (Region.free md ops listed i && (Region.ready md ops listed).contains i)) = true) (hQ : ∀ c a w, Q (.panic c) (a.put oi.dst v) w → Q (.panic c) a w)
    (hw : Region.wanted oi (yielded ops a.tmps) = true) (hy : ∀ w, S w → (execOp a.eval oi).run P w = .ok (.value v) w) (hS : S w)
    (h : wpAnyH P md ops Q S fuel (listed.setIfInBounds i true) (a.put oi.dst v) w) : wpAnyH P md ops Q S (fuel + 1) listed a w := by
  simp only [Bool.and_eq_true] at hc
  exact wpAnyH_take hi hc.1 hc.2.1 hc.2.2 hQ (.inl ⟨hw, hy⟩) hS h
theorem tkN {P : Program} {ops : Array Oper} {Q : Exit → Act → World → Prop} {md : Region.Mode} {S : World → Prop} {i : Nat} {oi : Oper} {fuel : Nat} {listed : Array Bool} {a : Act} {w : World} (hi : ops[i]? = some oi)
    (hc : (Region.noSelect ops && (Region.free md ops listed i && (Region.ready md ops listed).contains i)) = true) (hQ : ∀ c a w, Q (.panic c) (a.put oi.dst undef) w → Q (.panic c) a w)
    (hw : Region.wanted oi (yielded ops a.tmps) = false) (hS : S w)
    (h : wpAnyH P md ops Q S fuel (listed.setIfInBounds i true) (a.put oi.dst undef) w) : wpAnyH P md ops Q S (fuel + 1) listed a w := by
  simp only [Bool.and_eq_true] at hc
  exact wpAnyH_take hi hc.1 hc.2.1 hc.2.2 hQ (.inr ⟨hw, rfl⟩) hS h
theorem tka {α : Type} (l : List α) (i : Nat) : l.toArray[i]? = l[i]? := List.getElem?_toArray
theorem tkb {α : Type} (a : α) (l : List α) (i : Nat) : (a :: l)[i + 1]? = l[i]? := List.getElem?_cons_succ
theorem tkc {α : Type} (a : α) (l : List α) : (a :: l)[0]? = some a := List.getElem?_cons_zero
theorem tkd {α : Type} (l : List α) (i : Nat) (x : α) : l.toArray.setIfInBounds i x = (l.set i x).toArray := by simp
theorem tke {α : Type} (a x : α) (l : List α) : (a :: l).set 0 x = x :: l := rfl
theorem tkf {α : Type} (a x : α) (l : List α) (i : Nat) : (a :: l).set (i + 1) x = a :: l.set i x := rfl
end Go.Proofs.Ytmncdpiojhgcdaa

/- What a stretch of a walk has left as it was: all blocks but those of one span, and new ones. They speak of no program. -/
namespace Go.Proofs.Ytmncdpiojhgcdaa
open Go.ChangeShapes Go.WideShapes Go.ChangeAt Go.RowKit
set_option linter.unusedVariables false

/-- From w to w' no block that was there has turned, but those from B on and below T. -/
structure Sp (B T : Nat) (w w' : World) : Prop where
  os : w'.os = w.os
  tape : w'.tape = w.tape
  output : w'.output = w.output
  size : w.heap.size ≤ w'.heap.size
  block : ∀ i, i < w.heap.size → i < B ∨ T ≤ i → w'.heap[i]? = w.heap[i]?

section
variable {B T B' n c : Nat} {w W w1 : World}
theorem sp_refl (B T : Nat) (w : World) : Sp B T w w := ⟨rfl, rfl, rfl, Nat.le_refl _, fun _ _ _ => rfl⟩
theorem sp_drewN (h : Sp B T w W) (k : Nat) : Sp B T w (W.drewN k) := ⟨h.os, h.tape, h.output, h.size, h.block⟩
theorem sp_drew (h : Sp B T w W) : Sp B T w W.drew := ⟨h.os, h.tape, h.output, h.size, h.block⟩
theorem sp_alloc (h : Sp B T w W) (o : Obj) : Sp B T w (W.alloc o) := ⟨h.os, h.tape, h.output, Nat.le_trans h.size (by simp), fun i hi hk => (Below.heap_alloc W o i (Nat.lt_of_lt_of_le hi h.size)).trans (h.block i hi hk)⟩
theorem sp_set (h : Sp B T w W) {p : Addr} (hp : (B ≤ p.block ∧ p.block < T) ∨ w.heap.size ≤ p.block) (u : Value) : Sp B T w (W.setCell p u) :=
  ⟨h.os, h.tape, h.output, by simpa [World.setCell] using h.size, fun i hi hk => (Below.heap_setCell W p u i (by rintro rfl; omega)).trans (h.block i hi hk)⟩
theorem sp_call (hb : Below W.heap.size W w1) (h : Sp B T w W) : Sp B T w w1 := ⟨hb.os.trans h.os, hb.tape.trans h.tape, hb.output.trans h.output, Nat.le_trans h.size hb.size, fun i hi hk => (hb.block i (Nat.lt_of_lt_of_le hi h.size)).trans (h.block i hi hk)⟩
theorem sp_grown (h : Sp B T w W) {row : Option Nat} (hg : W.grownBy w1 row) (hr : ∀ k, row = some k → (B ≤ k ∧ k < T) ∨ w.heap.size ≤ k) : Sp B T w w1 :=
  ⟨hg.os.trans h.os, hg.tape.trans h.tape, hg.output.trans h.output, Nat.le_trans h.size hg.size, fun i hi hk => (hg.block i (Nat.lt_of_lt_of_le hi h.size) (fun e => by have := hr i e.symm; omega)).trans (h.block i hi hk)⟩
theorem sp_trans (h : Sp B T w W) (h' : Sp B T W w1) : Sp B T w w1 := ⟨h'.os.trans h.os, h'.tape.trans h.tape, h'.output.trans h.output, Nat.le_trans h.size h'.size, fun i hi hk => (h'.block i (Nat.lt_of_lt_of_le hi h.size) hk).trans (h.block i hi hk)⟩
theorem bl_sp {w0 : World} (h0 : Below w0.heap.size w0 w) (h : Sp B T w W) (hB : w0.heap.size ≤ B) : Below w0.heap.size w0 W :=
  ⟨h.os.trans h0.os, h.tape.trans h0.tape, h.output.trans h0.output, Nat.le_trans h0.size h.size, fun i hi => (h.block i (Nat.lt_of_lt_of_le hi h0.size) (.inl (Nat.lt_of_lt_of_le hi hB))).trans (h0.block i hi)⟩
theorem own_sp {e : TypeId} {size : Nat} {v : Value} {xs : List Value} (h : w.ownsRow B' e size v n xs) (hs : Sp B T w W) (hk : ∀ k, v.ownBlock = some k → k < B ∨ T ≤ k) : W.ownsRow B' e size v n xs := by
  refine ⟨h.1, ?_⟩
  rcases h.2 with h0 | ⟨g, cap, cur, h1, h2, h3, h4⟩
  · exact .inl h0
  · refine .inr ⟨g, cap, cur, h1, h2, ?_, h4⟩
    rw [hs.block g (Array.getElem?_eq_some_iff.1 h3).1 (hk g (by rw [h1]; rfl))]
    exact h3
theorem OL.sp {e : TypeId} {A : Option Addr} {l : List Int} (h : OL w e B' A c l) (hs : Sp B T w W) (hk : T ≤ B') : OL W e B' A c l := own_sp h hs (fun k h1 => .inr (Nat.le_trans hk (h.own_lt k h1).1))
theorem TO.sp {α : Type} [Rec α] {e : TypeId} {A : Option Addr} {l : List α} (h : TO w e B' A c l) (hs : Sp B T w W) (hk : T ≤ B') : TO W e B' A c l := own_sp h hs (fun k h1 => .inr (Nat.le_trans hk (h.own_lt k h1).1))
end
end Go.Proofs.Ytmncdpiojhgcdaa

/- append of one record at a step of a region that draws its order; records of four integers. It speaks of no program. -/
namespace Go.Proofs.Ytmncdpiojhgcdaa
open Go.ChangeShapes Go.WideShapes Go.ChangeAt Go.RowKit
set_option linter.unusedVariables false

theorem step_append_rec {α : Type} [Rec α] {P : Program} {ops : Array Oper} {o : Oper} {a : Act} {K : Act → World → Prop} {Q : Exit → Act → World → Prop} {E : Prop} {w : World} (hgd : o.guard = none) (s x : Operand) (t : TypeId)
    (ho : o.op = .call { callee := .builtin .append, args := #[s, x], argTypes := #[t, t] })
    (e : TypeId) (i : TypeInfo) (zv : Value) (bytes : Nat) (ht : P.underlying t = some (.slice e)) (hi : P.info? e = some i) (hz : i.zero = some zv) (hsize : i.size = Rec.size α) (hby : i.bytes = bytes) (hzs : zv.cells.size = Rec.size α) (hbl : bytes ≤ 64)
    (B : Nat) (A : Option Addr) (c n : Nat) (L : List α) (hs : a.eval s = .slice A n c) (hn : n = L.length) (hown : TO w e B A c L)
    (b : Nat) (r : α) (hx : a.eval x = .slice (some ⟨b, 0, none⟩) 1 1) (h1 : ∀ u ∈ Rec.cells r, u.oneCell' = true) (hc : ∀ j, j < Rec.size α → w.cell? ⟨b, j, none⟩ = (Rec.cells r)[j]?) (hlen : n ≤ 1000000000000) (hB : B ≤ w.heap.size) (H : Nat) (hH : w.heap.size = H)
    (h : ∀ g' c' w', TO w' e B (some ⟨g', 0, none⟩) c' (L ++ [r]) → Below B w w' → w.grownBy w' (Value.slice A n c).ownBlock → ((Value.slice A n c).ownBlock = some g' ∨ g' = H) → g' < w'.heap.size → K (a.put o.dst (.slice (some ⟨g', 0, none⟩) (n + 1) c')) w') : if Region.wanted o (yielded ops a.tmps) = true then Oper.wp P o a w K Q else E := by
  subst hn
  refine step_append_lies w hgd s x t ho B e i zv (Rec.size α) bytes ht hi hz hsize hby hzs Rec.pos _ L.length (L.flatMap Rec.cells) hs hown ⟨b, 0, none⟩ 1 1 (Rec.cells r) hx (by rw [Rec.len, Nat.one_mul]) ?_ h1 (by decide) (by unfold maxLen; omega) ?_ hB H hH ?_
  · intro j u hj
    have hj2 : j < Rec.size α := by
      have := (List.getElem?_eq_some_iff.1 hj).1
      rwa [Rec.len] at this
    rw [← hj, ← hc j hj2]
    congr 1
    by_cases h0 : j = 0 <;> simp [Addr.add, h0]
  · have : (L.length + 1) * bytes ≤ (L.length + 1) * 64 := Nat.mul_le_mul_left _ hbl
    omega
  · intro g' cap w' hown' hgr hat hlt
    obtain ⟨A', c', he, hl, hol⟩ := TO.of_own (L := L ++ [r]) hown' (by simp)
    injection he with he _ he2
    subst he2
    subst he
    exact h g' _ w' hol ((Below.refl _ _).grown hgr hB (fun k hk => (hown.own_lt k hk).1)) hgr hat hlt
/-- A way: its place, its pieces, its cost, the way before it. -/
structure Wy where
  a : Int
  p : Int
  c : Int
  b : Int
instance : Rec Wy := ⟨4, by decide, fun x => [.int .i64 x.a, .int .i64 x.p, .int .i64 x.c, .int .i64 x.b], fun _ => rfl, ⟨0, 0, 0, 0⟩⟩
abbrev wyv (x : Wy) : Value := .agg #[.int .i64 x.a, .int .i64 x.p, .int .i64 x.c, .int .i64 x.b]
theorem TL.at4 {w : World} {A : Option Addr} {n : Nat} {L : List Wy} (h : TL w A n L) {i : Nat} (hi : i < n) : ∃ b o, A = some ⟨b, o, none⟩ ∧ b < w.heap.size ∧ w.cell? ⟨b, o + i * 4, none⟩ = some (.int .i64 (tg L i).a) ∧ w.cell? ⟨b, o + i * 4 + 1, none⟩ = some (.int .i64 (tg L i).p) ∧ w.cell? ⟨b, o + i * 4 + 2, none⟩ = some (.int .i64 (tg L i).c) ∧ w.cell? ⟨b, o + i * 4 + 3, none⟩ = some (.int .i64 (tg L i).b) := by
  obtain ⟨b, o, e, hb, hc⟩ := h.at_ hi
  exact ⟨b, o, e, hb, hc 0 (by decide), hc 1 (by decide), hc 2 (by decide), hc 3 (by decide)⟩
theorem ones4 (x : Wy) : ∀ u ∈ Rec.cells x, u.oneCell' = true := by
  intro u hu
  simp [Rec.cells] at hu
  rcases hu with rfl | rfl | rfl | rfl <;> rfl
theorem tgW_set {L : List Wy} {i j : Nat} {x : Wy} (hj : j < L.length) : tg (L.set i x) j = if i = j then x else tg L j := by
  rw [tg_lt (by simpa using hj), List.getElem_set, tg_lt hj]
theorem flat_set4 {L : List Wy} {i j : Nat} {x : Wy} {v : Value} (hi : i < L.length) (hj : j < 4) (hx : Rec.cells x = (Rec.cells (tg L i)).set j v) : (L.flatMap Rec.cells).set (i * 4 + j) v = (L.set i x).flatMap Rec.cells := by
  have hl : (L.flatMap Rec.cells).length = L.length * 4 := flat_len L
  have hl2 : ((L.set i x).flatMap Rec.cells).length = L.length * 4 := by have := flat_len (L.set i x); rw [List.length_set] at this; exact this
  apply List.ext_getElem?
  intro m
  by_cases hm : m < L.length * 4
  · obtain ⟨q, r, hr, rfl⟩ : ∃ q r, r < 4 ∧ m = q * 4 + r := ⟨m / 4, m % 4, Nat.mod_lt _ (by omega), by omega⟩
    have hq : q < L.length := by omega
    have e1 := flat_get (L.set i x) (i := q) (j := r) (by rw [List.length_set]; exact hq) (show r < Rec.size Wy from hr)
    have e2 := flat_get L (i := q) (j := r) hq (show r < Rec.size Wy from hr)
    rw [tgW_set hq] at e1
    change (List.flatMap Rec.cells (L.set i x))[q * 4 + r]? = _ at e1
    change (List.flatMap Rec.cells L)[q * 4 + r]? = _ at e2
    rw [e1, List.getElem?_set, hl]
    by_cases e : i = q
    · subst e
      rw [if_pos rfl, hx, List.getElem?_set]
      have hcl : (Rec.cells (tg L i)).length = 4 := Rec.len _
      by_cases e3 : j = r
      · subst e3
        rw [if_pos rfl, if_pos (by omega), if_pos rfl, if_pos (by omega)]
      · rw [if_neg (by omega), if_neg e3, e2]
    · rw [if_neg (by omega), if_neg e, e2]
  · rw [List.getElem?_eq_none (by rw [List.length_set]; omega), List.getElem?_eq_none (by omega)]
theorem TO.set4 {w : World} {e : TypeId} {B g c : Nat} {L : List Wy} (h : TO w e B (some ⟨g, 0, none⟩) c L) {i j : Nat} {x : Wy} {v : Value} (hi : i < L.length) (hj : j < 4) (hx : Rec.cells x = (Rec.cells (tg L i)).set j v) : TO (w.setCell ⟨g, i * 4 + j, none⟩ v) e B (some ⟨g, 0, none⟩) c (L.set i x) := by
  have s0 := (World.ownsRow.stored h (i * 4 + j) v).1
  rw [flat_set4 hi hj hx] at s0
  unfold TO
  rw [List.length_set]
  exact s0
/-- A store of a whole way. -/
theorem TO.put4 {w : World} {e : TypeId} {B g c : Nat} {L : List Wy} (h : TO w e B (some ⟨g, 0, none⟩) c L) {i : Nat} (x : Wy) (hi : i < L.length) :
    TO ((((w.setCell ⟨g, i * 4, none⟩ (.int .i64 x.a)).setCell ⟨g, i * 4 + 1, none⟩ (.int .i64 x.p)).setCell ⟨g, i * 4 + 2, none⟩ (.int .i64 x.c)).setCell ⟨g, i * 4 + 3, none⟩ (.int .i64 x.b)) e B (some ⟨g, 0, none⟩) c (L.set i x) := by
  obtain ⟨y, hy⟩ : ∃ y, y = tg L i := ⟨_, rfl⟩
  have h1 := h.set4 (j := 0) (x := ⟨x.a, y.p, y.c, y.b⟩) (v := .int .i64 x.a) hi (by decide) (by rw [← hy]; rfl)
  have h2 := h1.set4 (i := i) (j := 1) (x := ⟨x.a, x.p, y.c, y.b⟩) (v := .int .i64 x.p) (by rw [List.length_set]; exact hi) (by decide) (by rw [tgW_set hi, if_pos rfl]; rfl)
  rw [List.set_set] at h2
  have h3 := h2.set4 (i := i) (j := 2) (x := ⟨x.a, x.p, x.c, y.b⟩) (v := .int .i64 x.c) (by rw [List.length_set]; exact hi) (by decide) (by rw [tgW_set hi, if_pos rfl]; rfl)
  rw [List.set_set] at h3
  have h4 := h3.set4 (i := i) (j := 3) (x := x) (v := .int .i64 x.b) (by rw [List.length_set]; exact hi) (by decide) (by rw [tgW_set hi, if_pos rfl]; rfl)
  rw [List.set_set] at h4
  exact h4
end Go.Proofs.Ytmncdpiojhgcdaa

/- The search for the least way: a way is offered. -/
namespace Go.Proofs.Ytmncdpiojhgcdaa
open Go.ChangeShapes Go.WideShapes Go.ChangeAt Go.RowKit
set_option linter.unusedVariables false
set_option maxRecDepth 4000

/-- What a way that is offered does to the ways with the same end. -/
def offT (cnt : Bool) (x : Wy) : List Wy → List Wy
  | [] => [x]
  | y :: ys => if cnt = true ∧ y.p ≠ x.p then y :: offT cnt x ys else if x.c < y.c then x :: ys else y :: ys
/-- The first k ways have other numbers of pieces. -/
def Skp (cnt : Bool) (x : Wy) (l : List Wy) (k : Nat) : Prop := ∀ j, j < k → cnt = true ∧ (tg l j).p ≠ x.p
theorem tg_consW {y : Wy} {l : List Wy} (j : Nat) : tg (y :: l) (j + 1) = tg l j := rfl
theorem offT_skip {cnt : Bool} {x : Wy} : ∀ {l : List Wy} {k : Nat}, k ≤ l.length → Skp cnt x l k → offT cnt x l = l.take k ++ offT cnt x (l.drop k)
  | l, 0, _, _ => by simp
  | [], k + 1, h, _ => by simp at h
  | y :: l, k + 1, h, hs => by
    have h0 := hs 0 (by omega)
    have ih := offT_skip (cnt := cnt) (x := x) (l := l) (k := k) (by simpa using h) (fun j hj => hs (j + 1) (by omega))
    have h0' : cnt = true ∧ y.p ≠ x.p := h0
    simp only [offT]
    rw [if_pos h0', ih]
    rfl
theorem drop_tgW {l : List Wy} {k : Nat} (h : k < l.length) : l.drop k = tg l k :: l.drop (k + 1) := by
  rw [tg_lt h]; exact List.drop_eq_getElem_cons h
theorem offT_set {cnt : Bool} {x : Wy} {l : List Wy} {k : Nat} (hk : k < l.length) (hs : Skp cnt x l k) (hn : ¬ (cnt = true ∧ (tg l k).p ≠ x.p)) (hc : x.c < (tg l k).c) : offT cnt x l = l.set k x := by
  rw [offT_skip (Nat.le_of_lt hk) hs, drop_tgW hk]
  simp only [offT]
  rw [if_neg hn, if_pos hc, List.set_eq_take_append_cons_drop, if_pos hk]
theorem offT_stay {cnt : Bool} {x : Wy} {l : List Wy} {k : Nat} (hk : k < l.length) (hs : Skp cnt x l k) (hn : ¬ (cnt = true ∧ (tg l k).p ≠ x.p)) (hc : (tg l k).c ≤ x.c) : offT cnt x l = l := by
  rw [offT_skip (Nat.le_of_lt hk) hs, drop_tgW hk]
  simp only [offT]
  rw [if_neg hn, if_neg (by omega), ← drop_tgW hk, List.take_append_drop]
theorem offT_end {cnt : Bool} {x : Wy} {l : List Wy} (hs : Skp cnt x l l.length) : offT cnt x l = l ++ [x] := by
  rw [offT_skip (Nat.le_refl _) hs, List.take_length, List.drop_length]
  rfl
theorem offT_len {cnt : Bool} {x : Wy} : ∀ {l : List Wy}, l.length ≤ (offT cnt x l).length ∧ (offT cnt x l).length ≤ l.length + 1
  | [] => by simp [offT]
  | y :: l => by
    have := offT_len (cnt := cnt) (x := x) (l := l)
    simp only [offT]
    split
    · simp; omega
    · split <;> simp
/-- The search at block S: its ways, the first active one, whether they are counted. -/
structure WSt (u : World) (B S : Nat) (ws : List Wy) (act : Nat) (cnt : Bool) : Prop where
  hB : B ≤ S
  hS : S < u.heap.size
  c1 : u.cell? ⟨S, 1, none⟩ = some (.int .i64 act)
  f1 : u.frozen? ⟨S, 1, none⟩ = false
  c2 : u.cell? ⟨S, 2, none⟩ = some (.bool cnt)
  f0 : u.frozen? ⟨S, 0, none⟩ = false
  own : ∃ g c, u.cell? ⟨S, 0, none⟩ = some (.slice (some ⟨g, 0, none⟩) ws.length c) ∧ g ≠ S ∧ TO u 137 B (some ⟨g, 0, none⟩) c ws
section
variable {u u' : World} {B S act n : Nat} {ws : List Wy} {cnt : Bool}
theorem WSt.below (h : WSt u B S ws act cnt) (hb : Below n u u') (hn : u.heap.size ≤ n) : WSt u' B S ws act cnt := by
  have hb := hb.mono hn
  obtain ⟨g, c, h1, h2, h3⟩ := h.own
  exact ⟨h.hB, Nat.lt_of_lt_of_le h.hS hb.size, keep_cell hb h.c1, (hb.frozen (p := ⟨S, 1, none⟩) h.hS).trans h.f1, keep_cell hb h.c2, (hb.frozen (p := ⟨S, 0, none⟩) h.hS).trans h.f0, g, c, keep_cell hb h1, h2, h3.below hb⟩
theorem WSt.drewN (h : WSt u B S ws act cnt) (k : Nat) : WSt (u.drewN k) B S ws act cnt := h.below (bl_drewN (bl_refl u) k) (Nat.le_refl _)
theorem WSt.drew (h : WSt u B S ws act cnt) : WSt u.drew B S ws act cnt := h.below (bl_drew (bl_refl u)) (Nat.le_refl _)
theorem WSt.alloc (h : WSt u B S ws act cnt) (o : Obj) : WSt (u.alloc o) B S ws act cnt := h.below (bl_alloc (bl_refl u) o) (Nat.le_refl _)
end
theorem on_setW (v : World) (S : Nat) (x : Value) : v.grownBy (v.setCell ⟨S, 0, none⟩ x) (some S) :=
  on_set' (World.grownBy.refl v (some S)) (.inl rfl) x
theorem WSt.put {u : World} {B S act n c g i : Nat} {ws : List Wy} {cnt : Bool} (h : WSt u B S ws act cnt) (hc : u.cell? ⟨S, 0, none⟩ = some (.slice (some ⟨g, 0, none⟩) n c)) (hi : i < ws.length) (x : Wy) :
    WSt ((((u.setCell ⟨g, i * 4, none⟩ (.int .i64 x.a)).setCell ⟨g, i * 4 + 1, none⟩ (.int .i64 x.p)).setCell ⟨g, i * 4 + 2, none⟩ (.int .i64 x.c)).setCell ⟨g, i * 4 + 3, none⟩ (.int .i64 x.b)) B S (ws.set i x) act cnt ∧
    Below B u ((((u.setCell ⟨g, i * 4, none⟩ (.int .i64 x.a)).setCell ⟨g, i * 4 + 1, none⟩ (.int .i64 x.p)).setCell ⟨g, i * 4 + 2, none⟩ (.int .i64 x.c)).setCell ⟨g, i * 4 + 3, none⟩ (.int .i64 x.b)) := by
  obtain ⟨g', c', h1, h2, h3⟩ := h.own
  rw [hc] at h1
  injection h1 with h1
  injection h1 with h1 h4 h5
  injection h1 with h1
  injection h1 with h1
  subst h1
  subst h5
  subst h4
  obtain ⟨g', e, hBg, _⟩ := h3.form (by omega)
  cases e
  have hne : ∀ (o1 o2 : Nat), (⟨g, o1, none⟩ : Addr) ≠ ⟨S, o2, none⟩ := fun o1 o2 e => by cases e; exact h2 rfl
  refine ⟨⟨h.hB, by simpa [World.setCell] using h.hS, ?_, ?_, ?_, ?_, g, c, ?_, h2, ?_⟩, ?_⟩
  · exact keep_set (keep_set (keep_set (keep_set h.c1 (hne _ _).symm _) (hne _ _).symm _) (hne _ _).symm _) (hne _ _).symm _
  · simp only [World.frozen?_setCell]; exact h.f1
  · exact keep_set (keep_set (keep_set (keep_set h.c2 (hne _ _).symm _) (hne _ _).symm _) (hne _ _).symm _) (hne _ _).symm _
  · simp only [World.frozen?_setCell]; exact h.f0
  · rw [List.length_set]
    exact keep_set (keep_set (keep_set (keep_set hc (hne _ _).symm _) (hne _ _).symm _) (hne _ _).symm _) (hne _ _).symm _
  · exact h3.put4 x hi
  · exact ((((Below.refl _ _).setCell (p := ⟨g, i * 4, none⟩) hBg _).setCell (p := ⟨g, i * 4 + 1, none⟩) hBg _).setCell (p := ⟨g, i * 4 + 2, none⟩) hBg _).setCell (p := ⟨g, i * 4 + 3, none⟩) hBg _
/-- A slice of ways that has grown, stored into the search. -/
theorem WSt.app {u v : World} {B S act c g c' g' : Nat} {ws : List Wy} {cnt : Bool} {o : Obj} {x : Wy} {n : Nat} (h : WSt u B S ws act cnt) (hc : u.cell? ⟨S, 0, none⟩ = some (.slice (some ⟨g, 0, none⟩) n c))
    (ho : TO v 137 B (some ⟨g', 0, none⟩) c' (ws ++ [x])) (hb : Below B (u.alloc o) v) (hg : (u.alloc o).grownBy v (Value.slice (some ⟨g, 0, none⟩) n c).ownBlock) (hat : (Value.slice (some ⟨g, 0, none⟩) n c).ownBlock = some g' ∨ g' = (u.alloc o).heap.size) :
    WSt (v.setCell ⟨S, 0, none⟩ (.slice (some ⟨g', 0, none⟩) (n + 1) c')) B S (ws ++ [x]) act cnt ∧ Below B (u.alloc o) (v.setCell ⟨S, 0, none⟩ (.slice (some ⟨g', 0, none⟩) (n + 1) c')) := by
  obtain ⟨g0, c0, h1, h2, h3⟩ := h.own
  rw [hc] at h1
  injection h1 with h1
  injection h1 with h1 h4 h5
  injection h1 with h1
  injection h1 with h1
  subst h1
  subst h5
  subst h4
  have hS := h.hS
  have hz := hg.size
  simp at hz
  have hgS : g' ≠ S := by
    rcases hat with e | e
    · have : (Value.slice (some ⟨g, 0, none⟩) ws.length c).ownBlock = some g := rfl
      rw [this] at e
      cases e
      exact h2
    · simp at e; omega
  have hA := h.alloc o
  have hne : some S ≠ (Value.slice (some ⟨g, 0, none⟩) ws.length c).ownBlock := by
    have : (Value.slice (some ⟨g, 0, none⟩) ws.length c).ownBlock = some g := rfl
    rw [this]
    intro e
    cases e
    exact h2 rfl
  have hk : ∀ j, v.cell? ⟨S, j, none⟩ = (u.alloc o).cell? ⟨S, j, none⟩ := fun j => hg.cell_far ⟨S, j, none⟩ (by show S < _; simp; omega) hne
  have hf : ∀ j, v.frozen? ⟨S, j, none⟩ = (u.alloc o).frozen? ⟨S, j, none⟩ := fun j => hg.frozen_far ⟨S, j, none⟩ (by show S < _; simp; omega) hne
  have hlen : (ws ++ [x]).length = ws.length + 1 := by simp
  refine ⟨⟨h.hB, by simp; omega, ?_, ?_, ?_, ?_, g', c', ?_, hgS, ?_⟩, hb.setCell h.hB _⟩
  · exact keep_set ((hk 1).trans hA.c1) (by intro e; cases e) _
  · rw [World.frozen?_setCell, hf]; exact hA.f1
  · exact keep_set ((hk 2).trans hA.c2) (by intro e; cases e) _
  · rw [World.frozen?_setCell, hf]; exact hA.f0
  · rw [hlen]
    exact World.cell?_setCell_same' _ _ _ (by rw [hk 0, keep_alloc hc o]; rfl)
  · have hbs : Below B v (v.setCell ⟨S, 0, none⟩ (.slice (some ⟨g', 0, none⟩) (ws.length + 1) c')) := (Below.refl _ _).setCell h.hB _
    exact ho.kept (on_setW v S _) (fun k hk e => by
      have : (Value.slice (some ⟨g', 0, none⟩) (ws ++ [x]).length c').ownBlock = some g' := rfl
      rw [this] at hk
      cases hk
      cases e
      exact hgS rfl)
theorem tg_appW {hd tl : List Wy} {k : Nat} : tg (hd ++ tl) (hd.length + k) = tg tl k := by
  have h : ¬ hd.length + k < hd.length := by omega
  simp [tg, List.getD, List.getElem?_append, h]
theorem set_appW {hd tl : List Wy} {k : Nat} {x : Wy} : (hd ++ tl).set (hd.length + k) x = hd ++ tl.set k x := by simp
theorem ko_below {W W' : World} (h : Below W.heap.size W W') : KeepsOthers W W' := ⟨h.size, fun k o hk _ => (h.block k (Array.getElem?_eq_some_iff.1 hk).1).trans hk⟩
section
variable {w W W' : World}
theorem ko_refl (w : World) : KeepsOthers w w := KeepsOthers.refl w
theorem ko_alloc (h : KeepsOthers w W) (o : Obj) : KeepsOthers w (W.alloc o) := h.trans (ko_below (bl_alloc (bl_refl W) o))
theorem ko_drewN (h : KeepsOthers w W) (n : Nat) : KeepsOthers w (W.drewN n) := h.trans (ko_below (bl_drewN (bl_refl W) n))
theorem ko_drew (h : KeepsOthers w W) : KeepsOthers w W.drew := h.trans (ko_below (bl_drew (bl_refl W)))
theorem ko_set (h : KeepsOthers w W) (p : Addr) (v : Value) : KeepsOthers w (W.setCell p v) := h.trans (KeepsOthers.setCell _ _ _)
theorem ko_grown {α : Type} [Rec α] {e : TypeId} {B c : Nat} {A : Option Addr} {L : List α} (ho : TO w e B A c L) (hg : w.grownBy W (Value.slice A L.length c).ownBlock) : KeepsOthers w W :=
  ⟨hg.size, fun k o hk hc => by
    refine (hg.block k (Array.getElem?_eq_some_iff.1 hk).1 (fun e => ?_)).trans hk
    rcases ho.2 with ⟨h0, _⟩ | ⟨g, cap, cur, h1, h2, h3, _⟩
    · rw [h0] at e; cases e
    · rw [h1] at e
      cases e
      rw [h3] at hk
      cases hk
      cases hc⟩
end
theorem way_info : (Try.prog.info? 137).map (fun i => (i.zero, i.size, i.bytes)) = some (some (.agg #[.int .i64 0, .int .i64 0, .int .i64 0, .int .i64 0]), 4, 32) := by kernel_rfl
set_option maxHeartbeats 4000000 in
theorem offer_i (w : World) (B S : Nat) (hd tl : List Wy) (act : Nat) (cnt : Bool) (x : Wy) (hs : WSt w B S (hd ++ tl) act cnt) (h0 : 0 < hd.length) (hl : (hd ++ tl).length ≤ 1000000) :
    Calls Try.prog 148 #[.pointer (some ⟨S, 0, none⟩), wyv x, .int .i64 hd.length] w fun e w' => (∃ v, e = .returned v) ∧ WSt w' B S (hd ++ offT cnt x tl) act cnt ∧ Below B w w' ∧ KeepsOthers w w' := by
  obtain ⟨i0, hi0, jz0, jz1, jz2⟩ := info_parts way_info
  obtain ⟨xa, xp, xc, xb⟩ := x
  have hS := hs.hS
  have hB := hs.hB
  have c1 := keep_alloc hs.c1 (.cells #[.int .i64 xa, .int .i64 xp, .int .i64 xc, .int .i64 xb] 137)
  have c2 := keep_alloc hs.c2 (.cells #[.int .i64 xa, .int .i64 xp, .int .i64 xc, .int .i64 xb] 137)
  have f0 : (w.alloc (.cells #[.int .i64 xa, .int .i64 xp, .int .i64 xc, .int .i64 xb] 137)).frozen? ⟨S, 0, none⟩ = false := ((bcell (bl_alloc (bl_refl w) (.cells #[.int .i64 xa, .int .i64 xp, .int .i64 xc, .int .i64 xb] 137))).2 S 0 hS).trans hs.f0
  obtain ⟨g, c, c0', hgS, hto'⟩ := hs.own
  have c0 := keep_alloc c0' (.cells #[.int .i64 xa, .int .i64 xp, .int .i64 xc, .int .i64 xb] 137)
  have hto := hide (hto'.alloc (.cells #[.int .i64 xa, .int .i64 xp, .int .i64 xc, .int .i64 xb] 137))
  have hgw : g < w.heap.size := by
    obtain ⟨g', e, _, h2, _⟩ := hto'.form (by simp; omega)
    cases e
    exact h2
  have hgB : B ≤ g := by
    obtain ⟨g', e, h2, _⟩ := hto'.form (by simp; omega)
    cases e
    exact h2
  have HS := hide (hs.alloc (.cells #[.int .i64 xa, .int .i64 xp, .int .i64 xc, .int .i64 xb] 137))
  clear c0' hto' hs
  obtain ⟨N, hN⟩ : ∃ N, N = (hd ++ tl).length := ⟨_, rfl⟩
  have hNl : N = hd.length + tl.length := by rw [hN]; simp
  rw [← hN] at hl c0
  have HN := hide hNl
  clear hN hNl
  have E0 : (w.alloc (.cells #[.int .i64 xa, .int .i64 xp, .int .i64 xc, .int .i64 xb] 137)).cell? ⟨w.heap.size, 0, none⟩ = some (.int .i64 xa) := by simp [go_sem]
  have E1 : (w.alloc (.cells #[.int .i64 xa, .int .i64 xp, .int .i64 xc, .int .i64 xb] 137)).cell? ⟨w.heap.size, 1, none⟩ = some (.int .i64 xp) := by simp [go_sem]
  have E2 : (w.alloc (.cells #[.int .i64 xa, .int .i64 xp, .int .i64 xc, .int .i64 xb] 137)).cell? ⟨w.heap.size, 2, none⟩ = some (.int .i64 xc) := by simp [go_sem]
  have E3 : (w.alloc (.cells #[.int .i64 xa, .int .i64 xp, .int .i64 xc, .int .i64 xb] 137)).cell? ⟨w.heap.size, 3, none⟩ = some (.int .i64 xb) := by simp [go_sem]
  go_enter Try.func148, Try.ntmps148
  go_wp2
  go_loopw [6] (fun i u => ∃ (k n : Nat), k ≤ tl.length ∧ i = .int .i64 ((hd.length + k : Nat) : Int) ∧ Skp cnt ⟨xa, xp, xc, xb⟩ tl k ∧ (w.alloc (.cells #[.int .i64 xa, .int .i64 xp, .int .i64 xc, .int .i64 xb] 137)).drewN n = u) (fun i _ => N - (intOf i).toNat)
  case atStart => exact ⟨0, 0, by omega, by simp, fun j hj => by omega, rfl⟩
  case round =>
    obtain ⟨k, n, hk, rfl, hsk, rfl⟩ := hrel
    have SK := hide hsk
    clear hsk
    by_cases hlt : k < tl.length
    · obtain ⟨b, o, he, hbl, d0, d1, d2, d3⟩ := hto.out.reads.at4 (i := hd.length + k) (by simp; omega)
      injection he with he
      cases he
      rw [tg_appW] at d0 d1 d2 d3
      have ST := hide (fun h => offT_set (cnt := cnt) (x := ⟨xa, xp, xc, xb⟩) hlt SK.out h)
      have SY := hide (fun h => offT_stay (cnt := cnt) (x := ⟨xa, xp, xc, xb⟩) hlt SK.out h)
      have SN := hide (fun (h : cnt = true ∧ (tg tl k).p ≠ xp) => show Skp cnt ⟨xa, xp, xc, xb⟩ tl (k + 1) from fun j hj => by
        rcases (by omega : j < k ∨ j = k) with e | e
        · exact SK.out j e
        · rw [e]; exact h)
      obtain ⟨y, hy⟩ : ∃ y, y = tg tl k := ⟨_, rfl⟩
      rw [← hy] at d0 d1 d2 d3 ST SY SN
      clear hy
      obtain ⟨ya, yp, yc, yb⟩ := y
      rw [Nat.zero_add] at d0 d1 d2 d3
      obtain ⟨m, hm⟩ : ∃ m, m = hd.length + k := ⟨_, rfl⟩
      rw [← hm] at d0 d1 d2 d3 ⊢
      have hfz : ∀ i, (w.alloc (.cells #[.int .i64 xa, .int .i64 xp, .int .i64 xc, .int .i64 xb] 137)).frozen? ⟨g, i, none⟩ = false := by
        obtain ⟨g', e, _, _, hfz⟩ := hto.out.frozen (by simp; omega)
        cases e
        exact hfz
      have hmN : m < N := by have := HN.out; omega
      have HM := hide hm
      clear hm
      by_cases hskip : cnt = true ∧ yp ≠ xp
      · obtain ⟨rfl, hne⟩ := hskip
        have M := hide (SN.out ⟨rfl, hne⟩)
        have q0 : (yp != xp) = true := by simp [hne]
        clear ST SY SN hne
        go_wp2
        go_quiet (fail)
        go_wp2
        go_roundw
        case rel => exact ⟨k + 1, _, by omega, by rw [HM.out]; go_num, M.out, rfl⟩
        case measure => simp [intOf]; omega
      rcases (by cases cnt
                 · exact .inl rfl
                 · right; refine ⟨rfl, ?_⟩; false_or_by_contra; rename_i h; exact hskip ⟨rfl, h⟩ : cnt = false ∨ cnt = true ∧ yp = xp) with rfl | ⟨rfl, hyp⟩
      · have NS := hide hskip
        clear hskip
        rcases (by omega : xc < yc ∨ yc ≤ xc) with q | q
        · have d0 : decide (xc < yc) = true := decide_eq_true q
          go_wp2
          go_quiet (fail)
          go_wp2
          go_quiet (fail)
          go_wp2
          go_region_with (fail)
          all_goals
            go_wp2
            refine bodyPost_ret (results_none rfl _ _ _) rfl ?_
            refine ⟨⟨_, rfl⟩, ?_, ?_, by repeat (first | with_reducible exact ko_refl _ | with_reducible refine ko_set ?_ _ _ | with_reducible refine ko_alloc ?_ _ | with_reducible refine ko_drewN ?_ _ | with_reducible refine ko_drew ?_)⟩
            · rw [ST.out NS.out q, ← set_appW, ← HM.out]
              refine (WSt.put ?_ (by simpa [go_sem] using c0) (by simp; have := HN.out; omega) ⟨xa, xp, xc, xb⟩).1
              repeat (first | exact HS.out | with_reducible refine WSt.drewN ?_ _ | with_reducible refine WSt.drew ?_)
            · refine Below.trans ?_ (WSt.put (act := act) (cnt := false) (ws := hd ++ tl) ?_ (by simpa [go_sem] using c0) (by simp; have := HN.out; omega) ⟨xa, xp, xc, xb⟩).2
              · refine Below.mono (B := w.heap.size) ?_ (by omega); (repeat' (first | with_reducible exact bl_refl _ | with_reducible assumption | with_reducible refine bl_alloc ?_ _ | with_reducible refine bl_set ?_ ?_ _ | with_reducible refine bl_drewN ?_ _ | with_reducible refine bl_drew ?_ | with_reducible refine bl_call (by assumption) ?_))
              · repeat (first | exact HS.out | with_reducible refine WSt.drewN ?_ _ | with_reducible refine WSt.drew ?_)
        · have d0 : decide (xc < yc) = false := decide_eq_false (by omega)
          have E := hide (SY.out NS.out q)
          go_wp2
          go_quiet (fail)
          go_wp2
          go_quiet (fail)
          go_wp2
          refine bodyPost_ret (results_none rfl _ _ _) rfl ?_
          rw [E.out]
          refine ⟨⟨_, rfl⟩, ?_, ?_, by repeat (first | with_reducible exact ko_refl _ | with_reducible refine ko_set ?_ _ _ | with_reducible refine ko_alloc ?_ _ | with_reducible refine ko_drewN ?_ _ | with_reducible refine ko_drew ?_)⟩
          · repeat (first | exact HS.out | with_reducible refine WSt.drewN ?_ _ | with_reducible refine WSt.drew ?_)
          · refine Below.mono (B := w.heap.size) ?_ (by omega); (repeat' (first | with_reducible exact bl_refl _ | with_reducible assumption | with_reducible refine bl_alloc ?_ _ | with_reducible refine bl_set ?_ ?_ _ | with_reducible refine bl_drewN ?_ _ | with_reducible refine bl_drew ?_ | with_reducible refine bl_call (by assumption) ?_))
      · subst hyp
        have NS := hide hskip
        have q0 : (yp != yp) = false := by simp
        clear hskip
        rcases (by omega : xc < yc ∨ yc ≤ xc) with q | q
        · have d0 : decide (xc < yc) = true := decide_eq_true q
          go_wp2
          go_quiet (fail)
          go_wp2
          go_quiet (fail)
          go_wp2
          go_region_with (fail)
          all_goals
            go_wp2
            refine bodyPost_ret (results_none rfl _ _ _) rfl ?_
            refine ⟨⟨_, rfl⟩, ?_, ?_, by repeat (first | with_reducible exact ko_refl _ | with_reducible refine ko_set ?_ _ _ | with_reducible refine ko_alloc ?_ _ | with_reducible refine ko_drewN ?_ _ | with_reducible refine ko_drew ?_)⟩
            · rw [ST.out NS.out q, ← set_appW, ← HM.out]
              refine (WSt.put ?_ (by simpa [go_sem] using c0) (by simp; have := HN.out; omega) ⟨xa, yp, xc, xb⟩).1
              repeat (first | exact HS.out | with_reducible refine WSt.drewN ?_ _ | with_reducible refine WSt.drew ?_)
            · refine Below.trans ?_ (WSt.put (act := act) (cnt := true) (ws := hd ++ tl) ?_ (by simpa [go_sem] using c0) (by simp; have := HN.out; omega) ⟨xa, yp, xc, xb⟩).2
              · refine Below.mono (B := w.heap.size) ?_ (by omega); (repeat' (first | with_reducible exact bl_refl _ | with_reducible assumption | with_reducible refine bl_alloc ?_ _ | with_reducible refine bl_set ?_ ?_ _ | with_reducible refine bl_drewN ?_ _ | with_reducible refine bl_drew ?_ | with_reducible refine bl_call (by assumption) ?_))
              · repeat (first | exact HS.out | with_reducible refine WSt.drewN ?_ _ | with_reducible refine WSt.drew ?_)
        · have d0 : decide (xc < yc) = false := decide_eq_false (by omega)
          have E := hide (SY.out NS.out q)
          go_wp2
          go_quiet (fail)
          go_wp2
          go_quiet (fail)
          go_wp2
          refine bodyPost_ret (results_none rfl _ _ _) rfl ?_
          rw [E.out]
          refine ⟨⟨_, rfl⟩, ?_, ?_, by repeat (first | with_reducible exact ko_refl _ | with_reducible refine ko_set ?_ _ _ | with_reducible refine ko_alloc ?_ _ | with_reducible refine ko_drewN ?_ _ | with_reducible refine ko_drew ?_)⟩
          · repeat (first | exact HS.out | with_reducible refine WSt.drewN ?_ _ | with_reducible refine WSt.drew ?_)
          · refine Below.mono (B := w.heap.size) ?_ (by omega); (repeat' (first | with_reducible exact bl_refl _ | with_reducible assumption | with_reducible refine bl_alloc ?_ _ | with_reducible refine bl_set ?_ ?_ _ | with_reducible refine bl_drewN ?_ _ | with_reducible refine bl_drew ?_ | with_reducible refine bl_call (by assumption) ?_))
    · have hkl : k = tl.length := by omega
      have OE := hide (offT_end (cnt := cnt) (x := ⟨xa, xp, xc, xb⟩) (l := tl) (by rw [← hkl]; exact SK.out))
      have hmn : hd.length + k = N := by have := HN.out; omega
      have HL := hide (show N = (hd ++ tl).length by rw [List.length_append]; exact HN.out)
      rw [hmn]
      clear hkl hmn hk hlt SK
      have W0 := hide (show WSt ((w.alloc (.cells #[.int .i64 xa, .int .i64 xp, .int .i64 xc, .int .i64 xb] 137)).drewN n) B S (hd ++ tl) act cnt from HS.out.drewN n)
      have B0 := hide (show Below w.heap.size w ((w.alloc (.cells #[.int .i64 xa, .int .i64 xp, .int .i64 xc, .int .i64 xb] 137)).drewN n) from (by (repeat' (first | with_reducible exact bl_refl _ | with_reducible assumption | with_reducible refine bl_alloc ?_ _ | with_reducible refine bl_set ?_ ?_ _ | with_reducible refine bl_drewN ?_ _ | with_reducible refine bl_drew ?_ | with_reducible refine bl_call (by assumption) ?_)); (all_goals (first | omega | (simp; done) | (simp; omega)))))
      have K0 := hide (show KeepsOthers w ((w.alloc (.cells #[.int .i64 xa, .int .i64 xp, .int .i64 xc, .int .i64 xb] 137)).drewN n) from ko_drewN (ko_alloc (ko_refl w) _) n)
      have T0 := hide (show TO ((w.alloc (.cells #[.int .i64 xa, .int .i64 xp, .int .i64 xc, .int .i64 xb] 137)).drewN n) 137 B (some ⟨g, 0, none⟩) c (hd ++ tl) from hto.out)
      have hz : ((w.alloc (.cells #[.int .i64 xa, .int .i64 xp, .int .i64 xc, .int .i64 xb] 137)).drewN n).heap.size = w.heap.size + 1 := by simp
      obtain ⟨V, hV⟩ : ∃ V, V = (w.alloc (.cells #[.int .i64 xa, .int .i64 xp, .int .i64 xc, .int .i64 xb] 137)).drewN n := ⟨_, rfl⟩
      replace c0 : V.cell? ⟨S, 0, none⟩ = some (.slice (some ⟨g, 0, none⟩) N c) := by rw [hV]; exact c0
      replace f0 : V.frozen? ⟨S, 0, none⟩ = false := by rw [hV]; exact f0
      replace E0 : V.cell? ⟨w.heap.size, 0, none⟩ = some (.int .i64 xa) := by rw [hV]; exact E0
      replace E1 : V.cell? ⟨w.heap.size, 1, none⟩ = some (.int .i64 xp) := by rw [hV]; exact E1
      replace E2 : V.cell? ⟨w.heap.size, 2, none⟩ = some (.int .i64 xc) := by rw [hV]; exact E2
      replace E3 : V.cell? ⟨w.heap.size, 3, none⟩ = some (.int .i64 xb) := by rw [hV]; exact E3
      rw [← hV] at W0 B0 T0 K0 hz ⊢
      have hSV : S < V.heap.size := by omega
      have hgV : g < V.heap.size := by omega
      have hne : some S ≠ (Value.slice (some ⟨g, 0, none⟩) N c).ownBlock := by
        have : (Value.slice (some ⟨g, 0, none⟩) N c).ownBlock = some g := rfl
        rw [this]
        intro e
        cases e
        exact hgS rfl
      clear hV c1 c2 HS hto hz
      go_wp2
      go_region_law (refine step_append_rec (r := ⟨xa, xp, xc, xb⟩) rfl (.tmp 56) (.tmp 58) _ rfl 137 i0 _ 32 Try.underlying138 hi0 jz0 jz1 jz2 rfl (by decide) B (some ⟨g, 0, none⟩) c N (hd ++ tl) rfl HL.out (T0.out.drew.alloc _) V.heap.size rfl (ones4 _) (by intro j hj; have hj' : j < 4 := hj; rcases (by omega : j = 0 ∨ j = 1 ∨ j = 2 ∨ j = 3) with rfl | rfl | rfl | rfl <;> simp [go_sem, Rec.cells]) (by omega) (by simp; omega) _ rfl ?_; intro g' c' w1 hol' hb' hg' hat' hlt'; have k0 := (hg'.cell_far ⟨S, 0, none⟩ (by show S < _; simp; omega) hne).trans (keep_alloc (W := V.drew) c0 _); have kf := (hg'.frozen_far ⟨S, 0, none⟩ (by show S < _; simp; omega) hne).trans (((bcell (bl_alloc (bl_refl V.drew) (.cells #[.int .i64 xa, .int .i64 xp, .int .i64 xc, .int .i64 xb] 137))).2 S 0 hSV).trans f0))
      all_goals
        go_wp2
        go_end0
        have P := WSt.app (W0.out.drew) c0 hol' hb' hg' hat'
        rw [OE.out, ← List.append_assoc]
        exact ⟨⟨_, rfl⟩, P.1, ((Below.mono (bl_alloc (bl_drew B0.out) _) (by omega)).trans P.2), ko_set (KeepsOthers.trans (ko_alloc (ko_drew K0.out) _) (ko_grown (T0.out.drew.alloc _) (by rw [← HL.out]; exact hg'))) _ _⟩
end Go.Proofs.Ytmncdpiojhgcdaa

/- The search for the least way: all ways are extended to a place. -/
namespace Go.Proofs.Ytmncdpiojhgcdaa
open Go.ChangeShapes Go.WideShapes Go.ChangeAt Go.RowKit
set_option linter.unusedVariables false
set_option maxRecDepth 4000

/-- The way that goes on from the i-th to a place. -/
def nxW (C : Int → Int → Int → Int × Bool) (tt : Int) (hd : List Wy) (i : Nat) : Wy := ⟨tt, (tg hd i).p + 1, (tg hd i).c + (C (tg hd i).p (tg hd i).a tt).1, i⟩
def stW (C : Int → Int → Int → Int × Bool) (cnt : Bool) (tt : Int) (hd : List Wy) (i : Nat) (tl : List Wy) : List Wy :=
  if (C (tg hd i).p (tg hd i).a tt).2 = true then offT cnt (nxW C tt hd i) tl else tl
/-- What k ways from the i-th on add. -/
def extT (C : Int → Int → Int → Int × Bool) (cnt : Bool) (tt : Int) (hd : List Wy) : Nat → Nat → List Wy → List Wy
  | 0, _, tl => tl
  | k + 1, i, tl => extT C cnt tt hd k (i + 1) (stW C cnt tt hd i tl)
def extR (C : Int → Int → Int → Int × Bool) (cnt : Bool) (tt : Int) (hd : List Wy) (act : Nat) : List Wy := extT C cnt tt hd (hd.length - act) act []
theorem stW_len {C : Int → Int → Int → Int × Bool} {cnt : Bool} {tt : Int} {hd : List Wy} {i : Nat} {tl : List Wy} : tl.length ≤ (stW C cnt tt hd i tl).length ∧ (stW C cnt tt hd i tl).length ≤ tl.length + 1 := by
  unfold stW
  split
  · exact offT_len
  · omega
theorem extT_len {C : Int → Int → Int → Int × Bool} {cnt : Bool} {tt : Int} {hd : List Wy} : ∀ {k i : Nat} {tl : List Wy}, tl.length ≤ (extT C cnt tt hd k i tl).length ∧ (extT C cnt tt hd k i tl).length ≤ tl.length + k
  | 0, i, tl => by simp [extT]
  | k + 1, i, tl => by
    have h1 := stW_len (C := C) (cnt := cnt) (tt := tt) (hd := hd) (i := i) (tl := tl)
    have h2 := extT_len (C := C) (cnt := cnt) (tt := tt) (hd := hd) (k := k) (i := i + 1) (tl := stW C cnt tt hd i tl)
    simp only [extT]
    omega
theorem tg_left {l m : List Wy} {k : Nat} (h : k < l.length) : tg (l ++ m) k = tg l k := by
  rw [tg_lt (by simp; omega), tg_lt h, List.getElem_append_left h]
end Go.Proofs.Ytmncdpiojhgcdaa

/- Taking one operation of a drawn region, in the fewest words: the steps that every operation asks lie in the statements. It speaks of no program. -/
namespace Go.Proofs.Ytmncdpiojhgcdaa

theorem tky {P : Program} {ops : Array Oper} {Q : Exit → Act → World → Prop} {md : Region.Mode} {S : World → Prop} (i : Nat) {oi : Oper} {v : Value} {fuel : Nat} {listed : Array Bool} {a : Act} {w : World}
    (hc : (Region.noSelect ops && (Region.free md ops listed i && (Region.ready md ops listed).contains i)) = true := by kernel_rfl)
    (hi : ops[i]? = some oi := by (simp only [tka, tkb, tkc]; rfl))
    (hQ : ∀ c a w, Q (.panic c) (a.put oi.dst v) w → Q (.panic c) a w := by exact fun _ _ _ h => h)
    (hw : Region.wanted oi (yielded ops a.tmps) = true := by rfl)
    (hy : ∀ w, S w → (execOp a.eval oi).run P w = .ok (.value v) w := by (intro w hSw; (try dsimp only at hSw); go_simp; (try (with_reducible rfl)))) (hS : S w := by assumption)
    (h : wpAnyH P md ops Q S fuel (listed.setIfInBounds i true) (a.put oi.dst v) w) : wpAnyH P md ops Q S (fuel + 1) listed a w := tkY hi hc hQ hw hy hS h
theorem tkn {P : Program} {ops : Array Oper} {Q : Exit → Act → World → Prop} {md : Region.Mode} {S : World → Prop} (i : Nat) {oi : Oper} {fuel : Nat} {listed : Array Bool} {a : Act} {w : World}
    (hc : (Region.noSelect ops && (Region.free md ops listed i && (Region.ready md ops listed).contains i)) = true := by kernel_rfl)
    (hi : ops[i]? = some oi := by (simp only [tka, tkb, tkc]; rfl))
    (hQ : ∀ c a w, Q (.panic c) (a.put oi.dst undef) w → Q (.panic c) a w := by exact fun _ _ _ h => h)
    (hw : Region.wanted oi (yielded ops a.tmps) = false := by rfl) (hS : S w := by assumption)
    (h : wpAnyH P md ops Q S fuel (listed.setIfInBounds i true) (a.put oi.dst undef) w) : wpAnyH P md ops Q S (fuel + 1) listed a w := tkN hi hc hQ hw hS h
end Go.Proofs.Ytmncdpiojhgcdaa

/- The least way among several, and its ends. -/
namespace Go.Proofs.Ytmncdpiojhgcdaa
open Go.ChangeShapes Go.WideShapes Go.ChangeAt Go.RowKit
set_option linter.unusedVariables false
set_option linter.unusedSimpArgs false
set_option maxRecDepth 4000

/-- The order of numbers. -/
def cmpI (x y : Int) : Int := if x < y then -1 else if y < x then 1 else 0
def orI (x y : Int) : Int := if x ≠ 0 then x else y
def cmW (x y : Wy) : Int := orI (cmpI x.c y.c) (cmpI x.p y.p)
/-- The first least way. -/
def minW (m : Wy) : List Wy → Wy
  | [] => m
  | x :: l => minW (if cmW x m < 0 then x else m) l
theorem isNaN_i (x : Int) (w : World) : Calls Try.prog 149 #[.int .i64 x] w fun e w' => e = .returned (.bool false) ∧ w' = w := by
  go_enter Try.func149, Try.ntmps149
  go_wp2
  go_ret
  exact ⟨by simp, rfl⟩
theorem Compare_i (x y : Int) (w : World) : Calls Try.prog 120 #[.int .i64 x, .int .i64 y] w fun e w' => e = .returned (.int .i64 (cmpI x y)) ∧ w' = w := by
  have N := fun (x : Int) => isNaN_i x w
  rcases (by omega : x < y ∨ y < x ∨ x = y) with h | h | h
  · have E := hide (show cmpI x y = -1 by unfold cmpI; rw [if_pos h])
    go_enter Try.func120, Try.ntmps120
    go_wp2_with (go_at_call 149; (with_reducible refine (N _).mono ?_); rintro e w' ⟨rfl, rfl⟩)
    go_ret
    exact ⟨int_ret E.out.symm, rfl⟩
  · have E := hide (show cmpI x y = 1 by unfold cmpI; rw [if_neg (by omega), if_pos h])
    go_enter Try.func120, Try.ntmps120
    go_wp2_with (go_at_call 149; (with_reducible refine (N _).mono ?_); rintro e w' ⟨rfl, rfl⟩)
    go_ret
    exact ⟨int_ret E.out.symm, rfl⟩
  · subst h
    have E := hide (show cmpI x x = 0 by unfold cmpI; rw [if_neg (by omega), if_neg (by omega)])
    go_enter Try.func120, Try.ntmps120
    go_wp2_with (go_at_call 149; (with_reducible refine (N _).mono ?_); rintro e w' ⟨rfl, rfl⟩)
    go_ret
    exact ⟨int_ret E.out.symm, rfl⟩
theorem Or_i (x y : Int) (b : Nat) (w : World) (h0 : w.cell? ⟨b, 0, none⟩ = some (.int .i64 x)) (h1 : w.cell? ⟨b, 1, none⟩ = some (.int .i64 y)) : Calls Try.prog 119 #[.slice (some ⟨b, 0, none⟩) 2 2] w fun e w' => e = .returned (.int .i64 (orI x y)) ∧ w' = w := by
  have E1 := hide (fun (h : x ≠ 0) => show orI x y = x from if_pos h)
  have E2 := hide (fun (h : x = 0) => show orI x y = y from if_neg (by omega))
  obtain ⟨z, hz⟩ : ∃ z, z = orI x y := ⟨_, rfl⟩
  rw [← hz] at E1 E2 ⊢
  clear hz
  go_enter Try.func119, Try.ntmps119
  go_wp2
  go_loop [8] (fun i => ∃ p : Nat, p ≤ 2 ∧ i = .int .i64 p ∧ (1 ≤ p → x = 0) ∧ (2 ≤ p → y = 0)) (fun i => 2 - (intOf i).toNat)
  case atStart => exact ⟨0, by omega, rfl, fun h => by omega, fun h => by omega⟩
  case round =>
    obtain ⟨p, hp, rfl, hx, hy⟩ := hrel
    rcases (by omega : p = 0 ∨ p = 1 ∨ p = 2) with rfl | rfl | rfl
    · by_cases q : x = 0
      · have q0 : (x != 0) = false := by simp [q]
        have Q := hide q
        clear q E1 E2 hx hy
        go_wp2
        go_round
        case rel => exact ⟨1, by omega, rfl, fun _ => Q.out, fun h => by omega⟩
        case measure => simp [intOf]
      · have q0 : (x != 0) = true := by simp [q]
        have E := hide (E1.out q)
        clear q E1 E2 hx hy
        go_wp2
        go_ret
        exact ⟨int_ret E.out.symm, rfl⟩
    · have X := hide (hx (by omega))
      have E := hide (E2.out X.out)
      by_cases q : y = 0
      · have q0 : (y != 0) = false := by simp [q]
        have Q := hide q
        clear q E1 E2 hx hy
        go_wp2
        go_round
        case rel => exact ⟨2, by omega, rfl, fun _ => X.out, fun h => Q.out⟩
        case measure => simp [intOf]
      · have q0 : (y != 0) = true := by simp [q]
        clear q E1 E2 hx hy
        go_wp2
        go_ret
        exact ⟨int_ret E.out.symm, rfl⟩
    · have E := hide (show z = 0 by rw [E2.out (hx (by omega))]; exact hy (by omega))
      clear E1 E2 hx hy
      go_wp2
      go_ret
      exact ⟨int_ret E.out.symm, rfl⟩
set_option maxHeartbeats 2000000 in
theorem cmpWay_i (x y : Wy) (w : World) : Calls Try.prog 118 #[wyv x, wyv y] w fun e w' => e = .returned (.int .i64 (cmW x y)) ∧ Below w.heap.size w w' := by
  obtain ⟨x1, x2, x3, x4⟩ := x
  obtain ⟨y1, y2, y3, y4⟩ := y
  have E := hide (show cmW ⟨x1, x2, x3, x4⟩ ⟨y1, y2, y3, y4⟩ = orI (cmpI x3 y3) (cmpI x2 y2) from rfl)
  have C1 := hide (fun (u : World) => Compare_i x3 y3 u)
  have C2 := hide (fun (u : World) => Compare_i x2 y2 u)
  obtain ⟨a, ha⟩ : ∃ a, a = cmpI x3 y3 := ⟨_, rfl⟩
  obtain ⟨b, hb⟩ : ∃ a, a = cmpI x2 y2 := ⟨_, rfl⟩
  rw [← ha] at C1 E
  rw [← hb] at C2 E
  rw [E.out]
  clear E ha hb
  obtain ⟨V, hV⟩ : ∃ V, V = (w.alloc (.cells #[.int .i64 x1, .int .i64 x2, .int .i64 x3, .int .i64 x4] 137)).alloc (.cells #[.int .i64 y1, .int .i64 y2, .int .i64 y3, .int .i64 y4] 137) := ⟨_, rfl⟩
  have hBV : Below w.heap.size w V := by rw [hV]; exact bl_alloc (bl_alloc (bl_refl _) _) _
  have e2 : V.cell? ⟨w.heap.size, 1, none⟩ = some (.int .i64 x2) := by rw [hV]; simp [go_sem]
  have e3 : V.cell? ⟨w.heap.size, 2, none⟩ = some (.int .i64 x3) := by rw [hV]; simp [go_sem]
  have f2 : V.cell? ⟨w.heap.size + 1, 1, none⟩ = some (.int .i64 y2) := by rw [hV]; simp [go_sem]
  have f3 : V.cell? ⟨w.heap.size + 1, 2, none⟩ = some (.int .i64 y3) := by rw [hV]; simp [go_sem]
  go_enter Try.func118, Try.ntmps118
  go_wp2_with fail
  rw [← hV]
  clear hV
  have hB := bl_drew (bl_refl V)
  refine wp_region_held_drew (S := fun u : World => Below V.heap.size V u) (by kernel_rfl) (hB) (fun hHeld => ?_)
  (first | refine tky 0 (h := ?_) | refine tkn 0 (h := ?_)); (try simp only [Act.put, tkd, tke, tkf])
  refine tkY (i := 1) (oi := ?_) (v := ?_) ?_ (by kernel_rfl) ?_ ?_ ?_ (by assumption) ?_; rotate_left 2; (next => simp only [tka, tkb, tkc]; rfl); (next => exact fun _ _ _ h => h); (next => rfl); (next => intro w_ hSw; (try dsimp only at hSw); have e3 := keep_cell hSw e3; go_simp; (try (with_reducible rfl))); (try simp only [Act.put, tkd, tke, tkf])
  (first | refine tky 2 (h := ?_) | refine tkn 2 (h := ?_)); (try simp only [Act.put, tkd, tke, tkf])
  refine tkY (i := 3) (oi := ?_) (v := ?_) ?_ (by kernel_rfl) ?_ ?_ ?_ (by assumption) ?_; rotate_left 2; (next => simp only [tka, tkb, tkc]; rfl); (next => exact fun _ _ _ h => h); (next => rfl); (next => intro w_ hSw; (try dsimp only at hSw); have f3 := keep_cell hSw f3; go_simp; (try (with_reducible rfl))); (try simp only [Act.put, tkd, tke, tkf])
  (first | refine tky 5 (h := ?_) | refine tkn 5 (h := ?_)); (try simp only [Act.put, tkd, tke, tkf])
  refine tkY (i := 6) (oi := ?_) (v := ?_) ?_ (by kernel_rfl) ?_ ?_ ?_ (by assumption) ?_; rotate_left 2; (next => simp only [tka, tkb, tkc]; rfl); (next => exact fun _ _ _ h => h); (next => rfl); (next => intro w_ hSw; (try dsimp only at hSw); have e2 := keep_cell hSw e2; go_simp; (try (with_reducible rfl))); (try simp only [Act.put, tkd, tke, tkf])
  (first | refine tky 7 (h := ?_) | refine tkn 7 (h := ?_)); (try simp only [Act.put, tkd, tke, tkf])
  refine tkY (i := 8) (oi := ?_) (v := ?_) ?_ (by kernel_rfl) ?_ ?_ ?_ (by assumption) ?_; rotate_left 2; (next => simp only [tka, tkb, tkc]; rfl); (next => exact fun _ _ _ h => h); (next => rfl); (next => intro w_ hSw; (try dsimp only at hSw); have f2 := keep_cell hSw f2; go_simp; (try (with_reducible rfl))); (try simp only [Act.put, tkd, tke, tkf])
  refine wpAnyH_ready (rs := [4]) (by kernel_rfl) (by simp) ?_; refine AllReadyH.cons (o := ?_) ?_ (fun K hK => ?_) AllReadyH.nil; rotate_left 1; (next => simp only [List.getElem?_toArray, List.getElem?_cons_succ, List.getElem?_cons_zero]; rfl); go_simp
  go_at_call 120
  (with_reducible refine (C1.out _).mono ?_)
  rintro e w' ⟨rfl, rfl⟩
  (try go_wp2_with fail); refine hK.out _ _ (hB) (fun hHeld => ?_); clear hK K; (try simp only [Act.put, List.setIfInBounds_toArray, List.set_cons_zero, List.set_cons_succ])
  refine wpAnyH_ready (rs := [9]) (by kernel_rfl) (by simp) ?_; refine AllReadyH.cons (o := ?_) ?_ (fun K hK => ?_) AllReadyH.nil; rotate_left 1; (next => simp only [List.getElem?_toArray, List.getElem?_cons_succ, List.getElem?_cons_zero]; rfl); go_simp
  go_at_call 120
  (with_reducible refine (C2.out _).mono ?_)
  rintro e w' ⟨rfl, rfl⟩
  (try go_wp2_with fail); refine hK.out _ _ (hB) (fun hHeld => ?_); clear hK K; (try simp only [Act.put, List.setIfInBounds_toArray, List.set_cons_zero, List.set_cons_succ])
  refine wpAnyH_ready (rs := [10]) (by kernel_rfl) (by simp) ?_; refine AllReadyH.cons (o := ?_) ?_ (fun K hK => ?_) AllReadyH.nil; rotate_left 1; (next => simp only [List.getElem?_toArray, List.getElem?_cons_succ, List.getElem?_cons_zero]; rfl); go_simp
  (try go_wp2_with fail); refine hK.out _ _ (bl_alloc hB _) (fun hHeld => ?_); clear hK K; (try simp only [Act.put, List.setIfInBounds_toArray, List.set_cons_zero, List.set_cons_succ])
  refine wpAnyH_ready (rs := [11]) (by kernel_rfl) (by simp) ?_; refine AllReadyH.cons (o := ?_) ?_ (fun K hK => ?_) AllReadyH.nil; rotate_left 1; (next => simp only [List.getElem?_toArray, List.getElem?_cons_succ, List.getElem?_cons_zero]; rfl); go_simp
  go_at_call 119
  (with_reducible refine (Or_i a b _ _ ?_ ?_).mono ?_)
  · simp [go_sem]
  · simp [go_sem]
  rintro e w' ⟨rfl, rfl⟩
  (try go_wp2_with fail); refine hK.out _ _ (bl_alloc hB _) (fun hHeld => ?_); clear hK K; (try simp only [Act.put, List.setIfInBounds_toArray, List.set_cons_zero, List.set_cons_succ])
  (first | refine tky 12 (h := ?_) | refine tkn 12 (h := ?_)); (try simp only [Act.put, tkd, tke, tkf])
  refine wpAnyH_done (by kernel_rfl) ?_ _
  go_wp2
  go_ret
  exact ⟨rfl, bl_call (bl_alloc hB _) hBV⟩
/-- A way in a block of its own. -/
structure WyC (u : World) (b : Nat) (m : Wy) : Prop where
  k1 : u.cell? ⟨b, 0, none⟩ = some (.int .i64 m.a)
  k2 : u.cell? ⟨b, 1, none⟩ = some (.int .i64 m.p)
  k3 : u.cell? ⟨b, 2, none⟩ = some (.int .i64 m.c)
  k4 : u.cell? ⟨b, 3, none⟩ = some (.int .i64 m.b)
  fz : ∀ j, j < 4 → u.frozen? ⟨b, j, none⟩ = false
theorem WyC.below {u u' : World} {b n : Nat} {m : Wy} (h : WyC u b m) (hb : Below n u u') (hn : u.heap.size ≤ n) : WyC u' b m := by
  have hb := hb.mono hn
  have hl := World.block_lt_of_cell? u _ h.k1
  exact ⟨keep_cell hb h.k1, keep_cell hb h.k2, keep_cell hb h.k3, keep_cell hb h.k4, fun j hj => (hb.frozen (p := ⟨b, j, none⟩) hl).trans (h.fz j hj)⟩
theorem WyC.put {u : World} {b : Nat} {m : Wy} (h : WyC u b m) (x : Wy) : WyC ((((u.setCell ⟨b, 0, none⟩ (.int .i64 x.a)).setCell ⟨b, 1, none⟩ (.int .i64 x.p)).setCell ⟨b, 2, none⟩ (.int .i64 x.c)).setCell ⟨b, 3, none⟩ (.int .i64 x.b)) b x := by
  obtain ⟨k1, k2, k3, k4, kf⟩ := h
  refine ⟨?_, ?_, ?_, ?_, fun j hj => by simp only [World.frozen?_setCell]; exact kf j hj⟩
  · simp [go_sem, k1, k2, k3, k4]
  · simp [go_sem, k1, k2, k3, k4]
  · simp [go_sem, k1, k2, k3, k4]
  · simp [go_sem, k1, k2, k3, k4]
set_option maxHeartbeats 4000000 in
theorem MinFunc_i (w : World) (A : Option Addr) (n c : Nat) (E : List Wy) (hE : TL w A n E) (hn : 1 ≤ n) (hn2 : n ≤ 1000000) :
    Calls Try.prog 117 #[.slice A n c, .func (.func 118) #[] #[]] w fun e w' => e = .returned (wyv (minW (tg E 0) (E.drop 1))) ∧ Below w.heap.size w w' := by
  obtain rfl : n = E.length := hE.1
  obtain ⟨b, o, rfl, hbl, d0, d1, d2, d3⟩ := hE.at4 (i := 0) (by omega)
  have HE := hide hE
  have G0 := hide (show minW (tg E 0) (E.drop 1) = minW (tg E 0) (E.drop 1) from rfl)
  obtain ⟨R, hR⟩ : ∃ R, R = minW (tg E 0) (E.drop 1) := ⟨_, rfl⟩
  rw [← hR]
  have HR := hide hR
  clear hR hE
  have hm : tg E 0 = tg E 0 := rfl
  obtain ⟨m, hm⟩ : ∃ m, m = tg E 0 := ⟨_, rfl⟩
  rw [← hm] at HR d0 d1 d2 d3
  clear hm
  obtain ⟨m1, m2, m3, m4⟩ := m
  simp only [Nat.zero_mul, Nat.add_zero] at d0 d1 d2 d3
  go_enter Try.func117, Try.ntmps117
  go_wp2
  have hz0 : ((w.alloc (.cells #[.int .i64 0, .int .i64 0, .int .i64 0, .int .i64 0] 137)).alloc (.cells #[.int .i64 m1, .int .i64 m2, .int .i64 m3, .int .i64 m4] 137)).heap.size = w.heap.size + 2 := by simp
  have B0 : Below w.heap.size w ((w.alloc (.cells #[.int .i64 0, .int .i64 0, .int .i64 0, .int .i64 0] 137)).alloc (.cells #[.int .i64 m1, .int .i64 m2, .int .i64 m3, .int .i64 m4] 137)) := bl_alloc (bl_alloc (bl_refl _) _) _
  have z0 : ∀ j, j < 4 → ((w.alloc (.cells #[.int .i64 0, .int .i64 0, .int .i64 0, .int .i64 0] 137)).alloc (.cells #[.int .i64 m1, .int .i64 m2, .int .i64 m3, .int .i64 m4] 137)).cell? ⟨w.heap.size, j, none⟩ = some (.int .i64 0) ∧ ((w.alloc (.cells #[.int .i64 0, .int .i64 0, .int .i64 0, .int .i64 0] 137)).alloc (.cells #[.int .i64 m1, .int .i64 m2, .int .i64 m3, .int .i64 m4] 137)).frozen? ⟨w.heap.size, j, none⟩ = false := fun j hj => by
    rcases (by omega : j = 0 ∨ j = 1 ∨ j = 2 ∨ j = 3) with rfl | rfl | rfl | rfl <;> simp [go_sem]
  have m0 : WyC ((w.alloc (.cells #[.int .i64 0, .int .i64 0, .int .i64 0, .int .i64 0] 137)).alloc (.cells #[.int .i64 m1, .int .i64 m2, .int .i64 m3, .int .i64 m4] 137)) (w.heap.size + 1) ⟨m1, m2, m3, m4⟩ := by
    refine ⟨?_, ?_, ?_, ?_, fun j hj => ?_⟩
    · simp [go_sem]
    · simp [go_sem]
    · simp [go_sem]
    · simp [go_sem]
    · rcases (by omega : j = 0 ∨ j = 1 ∨ j = 2 ∨ j = 3) with rfl | rfl | rfl | rfl <;> simp [go_sem]
  obtain ⟨V, hV⟩ : ∃ V, V = (w.alloc (.cells #[.int .i64 0, .int .i64 0, .int .i64 0, .int .i64 0] 137)).alloc (.cells #[.int .i64 m1, .int .i64 m2, .int .i64 m3, .int .i64 m4] 137) := ⟨_, rfl⟩
  rw [← hV] at hz0 B0 z0 m0 ⊢
  have Z0 := hide z0
  have M0 := hide m0
  clear hV z0 m0 d0 d1 d2 d3
  go_loopw [6] (fun i u => ∃ (p : Nat) (m : Wy), 1 ≤ p ∧ p ≤ E.length ∧ i = .int .i64 p ∧ R = minW m (E.drop p) ∧ WyC u (w.heap.size + 1) m ∧ (∀ j, j < 4 → u.cell? ⟨w.heap.size, j, none⟩ = some (.int .i64 0) ∧ u.frozen? ⟨w.heap.size, j, none⟩ = false) ∧ w.heap.size + 2 ≤ u.heap.size ∧ Below w.heap.size w u) (fun i _ => E.length - (intOf i).toNat)
  case atStart => exact ⟨1, ⟨m1, m2, m3, m4⟩, by omega, hn, rfl, HR.out, M0.out, Z0.out, by omega, B0⟩
  case round =>
    obtain ⟨p, m, hp1, hp, rfl, hr, hm, hz, hzu, hbl⟩ := hrel
    have HRR := hide hr
    have HM := hide hm
    have HZ := hide hz
    have HBL := hide hbl
    obtain ⟨m1, m2, m3, m4⟩ := m
    obtain ⟨k1, k2, k3, k4, kf⟩ := hm
    simp only at k1 k2 k3 k4
    clear hr hz hbl
    by_cases hlt : p < E.length
    · obtain ⟨b', o', he, _, d0, d1, d2, d3⟩ := (HE.out.below HBL.out).at4 hlt
      injection he with he
      cases he
      have hbw : b < wr.heap.size := by have := HBL.out.size; omega
      have ex := drop_tgW hlt
      rw [ex] at HRR
      have CM := hide (fun (u : World) => cmpWay_i (tg E p) ⟨m1, m2, m3, m4⟩ u)
      have RL := hide (fun (h : cmW (tg E p) ⟨m1, m2, m3, m4⟩ < 0) => show minW ⟨m1, m2, m3, m4⟩ (tg E p :: E.drop (p + 1)) = minW (tg E p) (E.drop (p + 1)) by simp only [minW]; rw [if_pos h])
      have RG := hide (fun (h : 0 ≤ cmW (tg E p) ⟨m1, m2, m3, m4⟩) => show minW ⟨m1, m2, m3, m4⟩ (tg E p :: E.drop (p + 1)) = minW ⟨m1, m2, m3, m4⟩ (E.drop (p + 1)) by simp only [minW]; rw [if_neg (by omega)])
      obtain ⟨y, hy⟩ : ∃ y, y = tg E p := ⟨_, rfl⟩
      rw [← hy] at d0 d1 d2 d3 HRR CM RL RG
      clear hy ex
      obtain ⟨y1, y2, y3, y4⟩ := y
      simp only at d0 d1 d2 d3
      obtain ⟨z, hz⟩ : ∃ z, z = cmW ⟨y1, y2, y3, y4⟩ ⟨m1, m2, m3, m4⟩ := ⟨_, rfl⟩
      rw [← hz] at CM RL RG
      clear hz
      have hB := bl_drew (bl_refl wr)
      rcases (by omega : z < 0 ∨ 0 ≤ z) with q | q
      · have q0 : decide (z < 0) = true := decide_eq_true q
        have R1 := hide (HRR.out.trans (RL.out q))
        clear RL RG
        go_upto_region 7 with fail
        refine wp_region_held_drew (S := fun u : World => Below wr.heap.size wr u) (by kernel_rfl) (hB) (fun hHeld => ?_); (first | refine tky 0 (h := ?_) | refine tkn 0 (h := ?_)); (try simp only [Act.put, tkd, tke, tkf]); (first | refine tky 1 (h := ?_) | refine tkn 1 (h := ?_)); (try simp only [Act.put, tkd, tke, tkf]); (first | refine tky 2 (h := ?_) | refine tkn 2 (h := ?_)); (try simp only [Act.put, tkd, tke, tkf]); (first | refine tky 3 (h := ?_) | refine tkn 3 (h := ?_)); (try simp only [Act.put, tkd, tke, tkf]); refine tkY (i := 4) (oi := ?_) (v := ?_) ?_ (by kernel_rfl) ?_ ?_ ?_ (by assumption) ?_; rotate_left 2; (next => simp only [tka, tkb, tkc]; rfl); (next => exact fun _ _ _ h => h); (next => rfl); (next => intro w_ hSw; (try dsimp only at hSw); obtain ⟨d0, d1, d2, d3⟩ := (⟨keep_cell hSw d0, keep_cell hSw d1, keep_cell hSw d2, keep_cell hSw d3⟩ : _ ∧ _ ∧ _ ∧ _); go_simp; (try (with_reducible rfl))); (try simp only [Act.put, tkd, tke, tkf]); refine tkY (i := 5) (oi := ?_) (v := ?_) ?_ (by kernel_rfl) ?_ ?_ ?_ (by assumption) ?_; rotate_left 2; (next => simp only [tka, tkb, tkc]; rfl); (next => exact fun _ _ _ h => h); (next => rfl); (next => intro w_ hSw; (try dsimp only at hSw); obtain ⟨k1, k2, k3, k4⟩ := (⟨keep_cell hSw k1, keep_cell hSw k2, keep_cell hSw k3, keep_cell hSw k4⟩ : _ ∧ _ ∧ _ ∧ _); go_simp; (try (with_reducible rfl))); (try simp only [Act.put, tkd, tke, tkf]); refine wpAnyH_ready (rs := [6]) (by kernel_rfl) (by simp) ?_; refine AllReadyH.cons (o := ?_) ?_ (fun K hK => ?_) AllReadyH.nil; rotate_left 1; (next => simp only [List.getElem?_toArray, List.getElem?_cons_succ, List.getElem?_cons_zero]; rfl); go_simp; go_at_call 118; (with_reducible refine (CM.out _).mono ?_); rintro e u1 ⟨rfl, hb⟩; have hb1 := bl_undrew hb; have hz1 := hb1.size; (try go_wp2_with fail); refine hK.out _ _ (hb1) (fun hHeld => ?_); clear hK K; (try simp only [Act.put, List.setIfInBounds_toArray, List.set_cons_zero, List.set_cons_succ]); (first | refine tky 7 (h := ?_) | refine tkn 7 (h := ?_)); (try simp only [Act.put, tkd, tke, tkf]); refine wpAnyH_done (by kernel_rfl) ?_ _
        have d0 := keep_cell hb1 d0
        have d1 := keep_cell hb1 d1
        have d2 := keep_cell hb1 d2
        have d3 := keep_cell hb1 d3
        have MU := hide (HM.out.below hb1 (Nat.le_refl _))
        obtain ⟨k1, k2, k3, k4, kf⟩ := MU.out
        have kf0 := kf 0 (by omega)
        have kf1 := kf 1 (by omega)
        have kf2 := kf 2 (by omega)
        have kf3 := kf 3 (by omega)
        clear kf
        go_wp2
        go_roundw
        case rel =>
          refine ⟨p + 1, ⟨y1, y2, y3, y4⟩, by omega, by omega, by go_num, R1.out, MU.out.put ⟨y1, y2, y3, y4⟩, fun j hj => ⟨?_, ?_⟩, by simp; omega, bl_set (bl_set (bl_set (bl_set (bl_call hb1 HBL.out) (show w.heap.size ≤ w.heap.size + 1 by omega) _) (show w.heap.size ≤ w.heap.size + 1 by omega) _) (show w.heap.size ≤ w.heap.size + 1 by omega) _) (show w.heap.size ≤ w.heap.size + 1 by omega) _⟩
          · have hne : ∀ (o1 o2 : Nat), (⟨w.heap.size, o1, none⟩ : Addr) ≠ ⟨w.heap.size + 1, o2, none⟩ := fun o1 o2 e => by injection e with e; omega
            exact keep_set (keep_set (keep_set (keep_set (keep_cell hb1 (HZ.out j hj).1) (hne _ _) _) (hne _ _) _) (hne _ _) _) (hne _ _) _
          · simp only [World.frozen?_setCell]
            exact (hb1.frozen (p := ⟨w.heap.size, j, none⟩) (show w.heap.size < wr.heap.size by omega)).trans (HZ.out j hj).2
        case measure => simp [intOf]; omega
      · have q0 : decide (z < 0) = false := decide_eq_false (by omega)
        have R1 := hide (HRR.out.trans (RG.out q))
        clear RL RG
        go_upto_region 7 with fail
        refine wp_region_held_drew (S := fun u : World => Below wr.heap.size wr u) (by kernel_rfl) (hB) (fun hHeld => ?_); (first | refine tky 0 (h := ?_) | refine tkn 0 (h := ?_)); (try simp only [Act.put, tkd, tke, tkf]); (first | refine tky 1 (h := ?_) | refine tkn 1 (h := ?_)); (try simp only [Act.put, tkd, tke, tkf]); (first | refine tky 2 (h := ?_) | refine tkn 2 (h := ?_)); (try simp only [Act.put, tkd, tke, tkf]); (first | refine tky 3 (h := ?_) | refine tkn 3 (h := ?_)); (try simp only [Act.put, tkd, tke, tkf]); refine tkY (i := 4) (oi := ?_) (v := ?_) ?_ (by kernel_rfl) ?_ ?_ ?_ (by assumption) ?_; rotate_left 2; (next => simp only [tka, tkb, tkc]; rfl); (next => exact fun _ _ _ h => h); (next => rfl); (next => intro w_ hSw; (try dsimp only at hSw); obtain ⟨d0, d1, d2, d3⟩ := (⟨keep_cell hSw d0, keep_cell hSw d1, keep_cell hSw d2, keep_cell hSw d3⟩ : _ ∧ _ ∧ _ ∧ _); go_simp; (try (with_reducible rfl))); (try simp only [Act.put, tkd, tke, tkf]); refine tkY (i := 5) (oi := ?_) (v := ?_) ?_ (by kernel_rfl) ?_ ?_ ?_ (by assumption) ?_; rotate_left 2; (next => simp only [tka, tkb, tkc]; rfl); (next => exact fun _ _ _ h => h); (next => rfl); (next => intro w_ hSw; (try dsimp only at hSw); obtain ⟨k1, k2, k3, k4⟩ := (⟨keep_cell hSw k1, keep_cell hSw k2, keep_cell hSw k3, keep_cell hSw k4⟩ : _ ∧ _ ∧ _ ∧ _); go_simp; (try (with_reducible rfl))); (try simp only [Act.put, tkd, tke, tkf]); refine wpAnyH_ready (rs := [6]) (by kernel_rfl) (by simp) ?_; refine AllReadyH.cons (o := ?_) ?_ (fun K hK => ?_) AllReadyH.nil; rotate_left 1; (next => simp only [List.getElem?_toArray, List.getElem?_cons_succ, List.getElem?_cons_zero]; rfl); go_simp; go_at_call 118; (with_reducible refine (CM.out _).mono ?_); rintro e u1 ⟨rfl, hb⟩; have hb1 := bl_undrew hb; have hz1 := hb1.size; (try go_wp2_with fail); refine hK.out _ _ (hb1) (fun hHeld => ?_); clear hK K; (try simp only [Act.put, List.setIfInBounds_toArray, List.set_cons_zero, List.set_cons_succ]); (first | refine tky 7 (h := ?_) | refine tkn 7 (h := ?_)); (try simp only [Act.put, tkd, tke, tkf]); refine wpAnyH_done (by kernel_rfl) ?_ _
        go_wp2
        go_roundw
        case rel => exact ⟨p + 1, ⟨m1, m2, m3, m4⟩, by omega, by omega, by go_num, R1.out, HM.out.below hb1 (Nat.le_refl _), fun j hj => ⟨keep_cell hb1 (HZ.out j hj).1, (hb1.frozen (p := ⟨w.heap.size, j, none⟩) (show w.heap.size < wr.heap.size by omega)).trans (HZ.out j hj).2⟩, by omega, bl_call hb1 HBL.out⟩
        case measure => simp [intOf]; omega
    · obtain rfl : p = E.length := by omega
      have R1 := hide (show R = ⟨m1, m2, m3, m4⟩ by rw [HRR.out, List.drop_length]; rfl)
      have g0 := (HZ.out 0 (by omega)).1
      have g1 := (HZ.out 1 (by omega)).1
      have g2 := (HZ.out 2 (by omega)).1
      have g3 := (HZ.out 3 (by omega)).1
      have j0 := (HZ.out 0 (by omega)).2
      have j1 := (HZ.out 1 (by omega)).2
      have j2 := (HZ.out 2 (by omega)).2
      have j3 := (HZ.out 3 (by omega)).2
      go_wp2
      refine bodyPost_ret (v := wyv ⟨m1, m2, m3, m4⟩) (by simp [results, Try.results117, go_sem, *]) rfl ?_
      exact ⟨by rw [R1.out], bl_set (bl_set (bl_set (bl_set HBL.out (Nat.le_refl _) _) (Nat.le_refl _) _) (Nat.le_refl _) _) (Nat.le_refl _) _⟩
end Go.Proofs.Ytmncdpiojhgcdaa

/- The ends of the pieces of a way. -/
namespace Go.Proofs.Ytmncdpiojhgcdaa
open Go.ChangeShapes Go.WideShapes Go.ChangeAt Go.RowKit
set_option linter.unusedVariables false
set_option maxRecDepth 4000

/-- A way with n pieces, each of which goes on from one of the ways. -/
def OKw (ws : List Wy) : Nat → Wy → Prop
  | 0, x => x.p = 0
  | n + 1, x => x.p = ((n + 1 : Nat) : Int) ∧ ∃ i : Nat, x.b = i ∧ i < ws.length ∧ OKw ws n (tg ws i)
/-- The ends of its pieces. -/
def endL (ws : List Wy) : Nat → Wy → List Int
  | 0, _ => []
  | n + 1, x => endL ws n (tg ws x.b.toNat) ++ [x.a]
theorem endL_len {ws : List Wy} : ∀ {n : Nat} {x : Wy}, (endL ws n x).length = n
  | 0, _ => rfl
  | n + 1, x => by simp only [endL, List.length_append, endL_len]; rfl
theorem OKw.p {ws : List Wy} : ∀ {n : Nat} {x : Wy}, OKw ws n x → x.p = n
  | 0, _, h => h
  | n + 1, _, h => h.1
theorem rep_set {q : Nat} {S : List Int} {z : Int} : (List.replicate (q + 1) 0 ++ S).set q z = List.replicate q 0 ++ z :: S := by
  rw [show List.replicate (q + 1) (0 : Int) = List.replicate q 0 ++ [0] by rw [List.replicate_succ'], List.append_assoc]
  simp
set_option maxHeartbeats 4000000 in
theorem endsOf_i (w : World) (B S : Nat) (ws : List Wy) (act N : Nat) (cnt : Bool) (x : Wy) (hs : WSt w B S ws act cnt) (hx : OKw ws N x) (hl : ws.length ≤ 1000000) (hN : N ≤ 1000000) :
    Calls Try.prog 121 #[.pointer (some ⟨S, 0, none⟩), wyv x] w fun e w' => ∃ A c, e = .returned (.slice A N c) ∧ OL w' 3 w.heap.size A c (endL ws N x) ∧ Below w.heap.size w w' := by
  obtain ⟨i0, hi0, hz0, hz1, hz2⟩ := info_parts int_info
  have HX := hide hx
  have hp := hx.p
  obtain ⟨x1, x2, x3, x4⟩ := x
  obtain rfl : x2 = (N : Int) := hp
  have HS0 := hide hs
  have hSz := hs.hS
  have WC : WyC (w.alloc (.cells #[.int .i64 x1, .int .i64 N, .int .i64 x3, .int .i64 x4] 137)) w.heap.size ⟨x1, N, x3, x4⟩ := by
    refine ⟨?_, ?_, ?_, ?_, fun j hj => ?_⟩
    · simp [go_sem]
    · simp [go_sem]
    · simp [go_sem]
    · simp [go_sem]
    · rcases (by omega : j = 0 ∨ j = 1 ∨ j = 2 ∨ j = 3) with rfl | rfl | rfl | rfl <;> simp [go_sem]
  have HW := hide WC
  clear hs hx WC
  go_enter Try.func121, Try.ntmps121
  go_wp2_with (refine wpList_make_full _ rfl _ _ _ rfl (w.heap.size + 1) 3 i0 _ 1 Try.underlying30 hi0 hz0 hz1 .i64 .i64 _ _ N rfl rfl rfl rfl (by rw [hz2]; omega) (by unfold maxLen; omega) (by simp) ?_; intro w1 hown hgr)
  have H0 : Hid (OL w1 3 (w.heap.size + 1) (some ⟨w.heap.size + 1, 0, none⟩) N (List.replicate N 0 ++ [])) := hide (by
    rw [List.append_nil]
    unfold OL
    have e1 : (madeCells (Value.int .i64 0).cells N).toList = List.replicate N (.int .i64 0) := toList_madeCells_one _ _
    simp only [Nat.mul_one, e1] at hown
    simpa using hown)
  have hb1 : Below w.heap.size w w1 := (bl_alloc (bl_refl w) _).trans ((below_new hgr).mono (by simp))
  have hw1 := hide (HW.out.below (below_new hgr) (Nat.le_refl _))
  have hz1' := (World.ownsRow.lt hown (w.heap.size + 1) (by simp [Value.ownBlock])).2
  have HS := hide (show WSt w B S ws act cnt from HS0.out)
  clear hown hgr HW
  go_loopg [] N (fun q u => ∃ (x : Wy) (L : List Int), OKw ws q x ∧ q ≤ N ∧ endL ws N ⟨x1, N, x3, x4⟩ = endL ws q x ++ L ∧ q + L.length = N ∧ WyC u w.heap.size x ∧ OL u 3 (w.heap.size + 1) (some ⟨w.heap.size + 1, 0, none⟩) N (List.replicate q 0 ++ L) ∧ w.heap.size + 2 ≤ u.heap.size ∧ Below w.heap.size w u)
  case atStart => exact ⟨⟨x1, N, x3, x4⟩, [], HX.out, Nat.le_refl _, by rw [List.append_nil], by simp, hw1.out, H0.out, by omega, hb1⟩
  case round =>
    obtain ⟨x, L, hok, hq, hend, hlen, hwc, hol, hzu, hbl⟩ := hrel
    have OK := hide hok
    have EN := hide hend
    have LE := hide hlen
    have WC := hide hwc
    have HO := hide hol
    have BL := hide hbl
    have xp := hok.p
    obtain ⟨y1, y2, y3, y4⟩ := x
    obtain rfl : y2 = (gk : Int) := xp
    obtain ⟨k1, k2, k3, k4, kf⟩ := hwc
    simp only at k1 k2 k3 k4
    clear hok hend hlen hbl
    rcases Nat.eq_zero_or_pos gk with h0 | h0
    · subst h0
      have E1 := hide (show endL ws N ⟨x1, N, x3, x4⟩ = L by rw [EN.out]; rfl)
      have E2 : List.replicate 0 (0 : Int) ++ L = L := rfl
      have E3 := hide (show L.length = N by have := LE.out; omega)
      rw [E2] at hol
      clear E2 HO LE EN
      go_wp2
      go_ret
      exact ⟨_, N, rfl, by rw [E1.out]; exact hol.more (by omega), BL.out⟩
    · obtain ⟨n, rfl⟩ : ∃ n, gk = n + 1 := ⟨gk - 1, by omega⟩
      obtain ⟨i, hi, hil, hoi⟩ := OK.out.2
      obtain rfl : y4 = (i : Int) := hi
      have ek : (((n + 1 : Nat) : Int)) - 1 = (n : Int) := by omega
      have E1 := hide (show endL ws N ⟨x1, N, x3, x4⟩ = endL ws n (tg ws i) ++ y1 :: L by
        rw [EN.out]
        show (endL ws n (tg ws ((i : Int).toNat)) ++ [y1]) ++ L = _
        rw [Int.toNat_natCast, List.append_assoc]; rfl)
      have HOI := hide hoi
      have hlr := hide (show (List.replicate (n + 1) (0 : Int) ++ L).length = N by rw [List.length_append, List.length_replicate]; exact LE.out)
      have hnN : n < N := by have := LE.out; omega
      have HW := hide (HS.out.below BL.out (Nat.le_refl _))
      obtain ⟨g, c, c0, hgS, hto⟩ := (HS.out.below BL.out (Nat.le_refl _)).own
      have hgw : g < w.heap.size := by
        obtain ⟨g0, c0', h1, _, h3⟩ := HS.out.own
        have h4 := (BL.out.cell (p := ⟨S, 0, none⟩) hSz).trans h1
        rw [c0] at h4
        injection h4 with h4
        injection h4 with h4
        injection h4 with h4
        injection h4 with h4
        subst h4
        obtain ⟨g1, e, _, h5, _⟩ := h3.form (by omega)
        cases e
        exact h5
      obtain ⟨b, o, he, _, d0, d1, d2, d3⟩ := hto.reads.at4 hil
      injection he with he
      cases he
      have P := hide (HOI.out.p)
      obtain ⟨z, hz⟩ : ∃ z, z = tg ws i := ⟨_, rfl⟩
      rw [← hz] at d0 d1 d2 d3 HOI E1 P
      clear hz hoi OK EN
      obtain ⟨z1, z2, z3, z4⟩ := z
      obtain rfl : z2 = (n : Int) := P.out
      simp only [Nat.zero_add] at d0 d1 d2 d3
      have fz : wr.frozen? ⟨w.heap.size + 1, n, none⟩ = false := by
        obtain ⟨g', e, _, _, hfz⟩ := hol.frozen (by rw [hlr.out]; omega)
        cases e
        exact hfz n
      have kc : wr.cell? ⟨w.heap.size + 1, n, none⟩ = some (.int .i64 (ng (List.replicate (n + 1) 0 ++ L) n)) := by
        obtain ⟨b', o', e, _, h⟩ := hol.reads.at_ (i := n) (by rw [hlr.out]; omega)
        cases e
        rw [Nat.zero_add] at h
        exact h
      obtain ⟨M1, M2⟩ := hol.set_ n y1
      rw [rep_set] at M1
      have HM := hide M1
      have HM2 := hide M2
      have kf0 := kf 0 (by omega)
      have kf1 := kf 1 (by omega)
      have kf2 := kf 2 (by omega)
      have kf3 := kf 3 (by omega)
      obtain ⟨v0, hv0⟩ : ∃ v, v = ng (List.replicate (n + 1) 0 ++ L) n := ⟨_, rfl⟩
      rw [← hv0] at kc
      clear hol M1 M2 kf hto hv0 HO
      go_wp2
      have hne : ∀ (o1 o2 : Nat), (⟨w.heap.size, o1, none⟩ : Addr) ≠ ⟨w.heap.size + 1, o2, none⟩ := fun o1 o2 e => by injection e with e; omega
      have WD : WyC (wr.setCell ⟨w.heap.size + 1, n, none⟩ (.int .i64 y1)) w.heap.size ⟨y1, ((n + 1 : Nat) : Int), y3, (i : Int)⟩ :=
        ⟨keep_set WC.out.k1 (hne _ _) _, keep_set WC.out.k2 (hne _ _) _, keep_set WC.out.k3 (hne _ _) _, keep_set WC.out.k4 (hne _ _) _, fun j hj => by rw [World.frozen?_setCell]; exact WC.out.fz j hj⟩
      have HWD := hide WD
      have BD := hide (show Below w.heap.size w (wr.setCell ⟨w.heap.size + 1, n, none⟩ (.int .i64 y1)) from bl_set BL.out (show w.heap.size ≤ w.heap.size + 1 by omega) _)
      clear WD
      go_region_with (fail)
      all_goals
        go_wp2
        go_roundg n
        case measure => omega
        case rel =>
          refine ⟨⟨z1, n, z3, z4⟩, y1 :: L, HOI.out, ?_, E1.out, ?_, ?_, ?_, ?_, ?_⟩
          · omega
          · have := LE.out
            simp
            omega
          · exact (HWD.out.put ⟨z1, n, z3, z4⟩).below (bl_drew (bl_refl _)) (Nat.le_refl _)
          rotate_left
          · simp
            omega
          · exact bl_drew (bl_set (bl_set (bl_set (bl_set BD.out (Nat.le_refl _) _) (Nat.le_refl _) _) (Nat.le_refl _) _) (Nat.le_refl _) _)
          have G0 := World.grownBy.refl (wr.setCell ⟨w.heap.size + 1, n, none⟩ (.int .i64 y1)) (some w.heap.size)
          have G1 := on_set' G0 (p := ⟨w.heap.size, 0, none⟩) (.inl rfl) (.int .i64 z1)
          have G2 := on_set' G1 (p := ⟨w.heap.size, 1, none⟩) (.inl rfl) (.int .i64 (n : Int))
          have G3 := on_set' G2 (p := ⟨w.heap.size, 2, none⟩) (.inl rfl) (.int .i64 z3)
          have G4 := on_set' G3 (p := ⟨w.heap.size, 3, none⟩) (.inl rfl) (.int .i64 z4)
          have K := HM.out.kept G4 (fun k hk e => by
            have h1 : (Value.slice (some ⟨w.heap.size + 1, 0, none⟩) (List.replicate n 0 ++ y1 :: L).length N).ownBlock = some (w.heap.size + 1) := rfl
            rw [h1] at hk
            cases hk
            injection e with e
            omega)
          exact K.drew
end Go.Proofs.Ytmncdpiojhgcdaa

/- A part of a slice of records. It speaks of no program. -/
namespace Go.Proofs.Ytmncdpiojhgcdaa
open Go.ChangeShapes Go.WideShapes Go.ChangeAt Go.RowKit
set_option linter.unusedVariables false
set_option linter.unusedSimpArgs false

/-- The records from the f-th up to the t-th. -/
theorem tg_sub {α : Type} [Rec α] {L : List α} {f t i : Nat} (hi : i < t - f) (ht : t ≤ L.length) : tg ((L.drop f).take (t - f)) i = tg L (f + i) := by
  simp [tg, List.getD, List.getElem?_take, hi, List.getElem?_drop]
theorem TL.sub {α : Type} [Rec α] {w : World} {b o : Nat} {L : List α} {f t : Nat} (h : TL w (some ⟨b, o, none⟩) L.length L) (hft : f ≤ t) (ht : t ≤ L.length) : TL w (some ⟨b, o + f * Rec.size α, none⟩) (t - f) ((L.drop f).take (t - f)) := by
  refine ⟨by simp; omega, fun h0 => ?_⟩
  obtain ⟨b', o', e, hb, hc⟩ := h.2 (by omega)
  injection e with e
  cases e
  refine ⟨b, _, rfl, hb, fun i hi j hj => ?_⟩
  rw [tg_sub hi ht, ← hc (f + i) (by omega) j hj, Nat.add_mul, Nat.add_assoc o]

end Go.Proofs.Ytmncdpiojhgcdaa

/- leastWay in the program: the least way over places that come in a known order. -/
namespace Go.Proofs.Ytmncdpiojhgcdaa
open Go.ChangeShapes Go.WideShapes Go.ChangeAt Go.RowKit Go.Shelf
set_option linter.unusedVariables false
attribute [local go_sem] Oper.semAt_some

/-- The search after k places. -/
def lwS (C : Int → Int → Int → Int × Bool) (cnt : Bool) (start : Int) (pl : Nat → Int × Bool) : Nat → List Wy × Nat
  | 0 => ([⟨start, 0, 0, 0⟩], 0)
  | k + 1 => ((lwS C cnt start pl k).1 ++ extR C cnt (pl k).1 (lwS C cnt start pl k).1 (lwS C cnt start pl k).2, if (pl k).2 = true then (lwS C cnt start pl k).1.length else (lwS C cnt start pl k).2)
section
variable (C : Int → Int → Int → Int × Bool) (cnt : Bool) (start : Int) (pl : Nat → Int × Bool) (N : Nat)
def lwE : List Wy := (lwS C cnt start pl N).1.drop (lwS C cnt start pl N).2
def lwB : Wy := minW (tg (lwE C cnt start pl N) 0) ((lwE C cnt start pl N).drop 1)
def lwR : List Int × Int × Bool := if lwE C cnt start pl N = [] then ([], 0, false) else (endL (lwS C cnt start pl N).1 (lwB C cnt start pl N).p.toNat (lwB C cnt start pl N), (lwB C cnt start pl N).c, true)
end
theorem lwS_mono {C : Int → Int → Int → Int × Bool} {cnt : Bool} {start : Int} {pl : Nat → Int × Bool} {k : Nat} : (lwS C cnt start pl k).1.length ≤ (lwS C cnt start pl (k + 1)).1.length := by simp [lwS]
theorem lwS_le {C : Int → Int → Int → Int × Bool} {cnt : Bool} {start : Int} {pl : Nat → Int × Bool} {k : Nat} : ∀ {m : Nat}, k ≤ m → (lwS C cnt start pl k).1.length ≤ (lwS C cnt start pl m).1.length
  | 0, h => by obtain rfl : k = 0 := by omega
               exact Nat.le_refl _
  | m + 1, h => by
    rcases (by omega : k = m + 1 ∨ k ≤ m) with e | e
    · rw [e]; exact Nat.le_refl _
    · exact Nat.le_trans (lwS_le e) lwS_mono
theorem lwS_pos {C : Int → Int → Int → Int × Bool} {cnt : Bool} {start : Int} {pl : Nat → Int × Bool} : ∀ {k : Nat}, 0 < (lwS C cnt start pl k).1.length ∧ (lwS C cnt start pl k).2 ≤ (lwS C cnt start pl k).1.length
  | 0 => by simp [lwS]
  | k + 1 => by
    have := lwS_pos (C := C) (cnt := cnt) (start := start) (pl := pl) (k := k)
    simp only [lwS, List.length_append]
    split <;> omega
abbrev encW (pl : Nat → Int × Bool) (k : Nat) : Array Value := #[.int .i64 (pl k).1, .bool (pl k).2]
theorem TO.keptN {α : Type} [Rec α] {w w' : World} {e : TypeId} {B c : Nat} {A : Option Addr} {L : List α} {row : Option Nat} (h : TO w e B A c L) (hg : w.grownBy w' row) (hr : ∀ r, row = some r → ∃ o : Obj, w.heap[r]? = some o ∧ o.isCells = false) : TO w' e B A c L :=
  h.kept hg (fun k hk e => by
    obtain ⟨o, ho, hc⟩ := hr k e
    rcases h.2 with ⟨h0, _⟩ | ⟨g, cap, cur, h1, h2, h3, _⟩
    · rw [h0] at hk; cases hk
    · rw [h1] at hk
      cases hk
      rw [h3] at ho
      cases ho
      cases hc)
theorem WSt.keptN {u u' : World} {B S act : Nat} {ws : List Wy} {cnt : Bool} {row : Option Nat} (h : WSt u B S ws act cnt) (hg : u.grownBy u' row) (hr : ∀ r, row = some r → ∃ o : Obj, u.heap[r]? = some o ∧ o.isCells = false) : WSt u' B S ws act cnt := by
  obtain ⟨g, c, h1, h2, h3⟩ := h.own
  exact ⟨h.hB, Nat.lt_of_lt_of_le h.hS hg.size, cell_kept h.c1 hg hr, (frozen_kept h.c1 hg hr).trans h.f1, cell_kept h.c2 hg hr, (frozen_kept h1 hg hr).trans h.f0, g, c, cell_kept h1 hg hr, h2, h3.keptN hg hr⟩
theorem keeps_belowL {W W' : World} (h : Below W.heap.size W W') : KeepsOthers W W' := ⟨h.size, fun k o hk _ => (h.block k (Array.getElem?_eq_some_iff.1 hk).1).trans hk⟩
/-- A store into a search: the first active way. -/
theorem WSt.setAct {u : World} {B S act m : Nat} {ws : List Wy} {cnt : Bool} (h : WSt u B S ws act cnt) : WSt (u.setCell ⟨S, 1, none⟩ (.int .i64 m)) B S ws m cnt := by
  obtain ⟨g, c, h1, h2, h3⟩ := h.own
  refine ⟨h.hB, by simpa [World.setCell] using h.hS, World.cell?_setCell_same' _ _ _ (by rw [h.c1]; rfl), by rw [World.frozen?_setCell]; exact h.f1, keep_set h.c2 (by intro e; cases e) _, by rw [World.frozen?_setCell]; exact h.f0, g, c, keep_set h1 (by intro e; cases e) _, h2, ?_⟩
  exact h3.kept (row := some S) (on_set' (World.grownBy.refl _ _) (.inl rfl) _) (fun k hk e => by
    cases e
    have : (Value.slice (some ⟨g, 0, none⟩) ws.length c).ownBlock = some g := rfl
    rw [this] at hk
    cases hk
    exact h2 rfl)
set_option maxRecDepth 100000 in
set_option maxHeartbeats 4000000 in
theorem leastWay_i (w : World) (start : Int) (gf F : Nat) (lb qs : Array Value) (C : Int → Int → Int → Int × Bool) (cnt : Bool) (pl : Nat → Int × Bool) (N : Nat)
    (hseq : SeqN Fence.wide 4 Try.prog gf lb (encW pl) (Below w.heap.size) N w) (hent : ∀ args w, (callFunc gf args).run Try.prog w = .ok (.enter gf args) w)
    (hext : ∀ k u, k < N → Below w.heap.size w u → WSt u (w.heap.size + 1) (w.heap.size + 1 + 1) (lwS C cnt start pl k).1 (lwS C cnt start pl k).2 cnt →
      Calls Try.prog 116 #[.pointer (some ⟨w.heap.size + 1 + 1, 0, none⟩), .int .i64 (pl k).1, .func (.func F) #[] qs] u fun e u' => (∃ v, e = .returned v) ∧ WSt u' (w.heap.size + 1) (w.heap.size + 1 + 1) ((lwS C cnt start pl k).1 ++ extR C cnt (pl k).1 (lwS C cnt start pl k).1 (lwS C cnt start pl k).2) (lwS C cnt start pl k).2 cnt ∧ Below (w.heap.size + 1) u u' ∧ KeepsOthers u u')
    (hlen : (lwS C cnt start pl N).1.length ≤ 1000000) (hok : lwE C cnt start pl N ≠ [] → ∃ n, n ≤ 1000000 ∧ OKw (lwS C cnt start pl N).1 n (lwB C cnt start pl N)) :
    Calls Try.prog 70 #[.int .i64 start, .func (.func gf) #[] lb, .func (.func F) #[] qs, .bool cnt] w fun e w' => ∃ A c, e = .returned (.tuple #[.slice A (lwR C cnt start pl N).1.length c, .int .i64 (lwR C cnt start pl N).2.1, .bool (lwR C cnt start pl N).2.2]) ∧ OL w' 3 w.heap.size A c (lwR C cnt start pl N).1 ∧ Below w.heap.size w w' := by
  have HEXT := hide hext
  have HOK := hide hok
  clear hext hok
  refine (callsIn_wide (n := 5)).1 ?_
  refine callsIn_of_wp_marks Try.func70 rfl trivial ?_ rfl
  simp only [Try.ntmps70, List.size_toArray, List.length_cons, List.length_nil, Nat.reduceAdd, Nat.reduceSub, Array.replicate_succ, Array.replicate_zero, List.push_toArray, List.append_toArray, List.nil_append, List.cons_append]
  gi_wp2
  have c6 : (((w.alloc (.cells #[.func (.func F) #[] qs] 98)).alloc (.cells #[.int .i64 start, .int .i64 0, .int .i64 0, .int .i64 0] 137)).alloc (.cells #[.slice (some ⟨w.heap.size + 1, 0, none⟩) 1 1, .int .i64 0, .bool cnt] 140)).cell? ⟨w.heap.size, 0, none⟩ = some (.func (.func F) #[] qs) := by simp [go_sem]
  have WS0 : WSt (((w.alloc (.cells #[.func (.func F) #[] qs] 98)).alloc (.cells #[.int .i64 start, .int .i64 0, .int .i64 0, .int .i64 0] 137)).alloc (.cells #[.slice (some ⟨w.heap.size + 1, 0, none⟩) 1 1, .int .i64 0, .bool cnt] 140)) (w.heap.size + 1) (w.heap.size + 1 + 1) [⟨start, 0, 0, 0⟩] 0 cnt := by
    refine ⟨by omega, by simp, by simp [go_sem], by simp [go_sem], by simp [go_sem], by simp [go_sem], w.heap.size + 1, 1, by simp [go_sem], by omega, ?_⟩
    have := World.ownsRow_lit (base := w.heap.size + 1) (e := 137) (size := 4) (w.alloc (.cells #[.func (.func F) #[] qs] 98)) #[.int .i64 start, .int .i64 0, .int .i64 0, .int .i64 0] 1 (by simp) (by unfold maxLen; omega) (by simp)
    have h1 : TO ((w.alloc (.cells #[.func (.func F) #[] qs] 98)).alloc (.cells #[.int .i64 start, .int .i64 0, .int .i64 0, .int .i64 0] 137)) 137 (w.heap.size + 1) (some ⟨w.heap.size + 1, 0, none⟩) 1 [(⟨start, 0, 0, 0⟩ : Wy)] := by
      unfold TO
      rw [show Rec.size Wy = 4 from rfl]
      simpa [Rec.cells] using this
    exact h1.alloc _
  have hz0 : (((w.alloc (.cells #[.func (.func F) #[] qs] 98)).alloc (.cells #[.int .i64 start, .int .i64 0, .int .i64 0, .int .i64 0] 137)).alloc (.cells #[.slice (some ⟨w.heap.size + 1, 0, none⟩) 1 1, .int .i64 0, .bool cnt] 140)).heap.size = w.heap.size + 3 := by simp
  have hB0 : Below w.heap.size w (((w.alloc (.cells #[.func (.func F) #[] qs] 98)).alloc (.cells #[.int .i64 start, .int .i64 0, .int .i64 0, .int .i64 0] 137)).alloc (.cells #[.slice (some ⟨w.heap.size + 1, 0, none⟩) 1 1, .int .i64 0, .bool cnt] 140)) := by
    repeat' (first | exact bl_refl _ | refine bl_alloc ?_ _)
  obtain ⟨W0, hW0⟩ : ∃ W0, W0 = (((w.alloc (.cells #[.func (.func F) #[] qs] 98)).alloc (.cells #[.int .i64 start, .int .i64 0, .int .i64 0, .int .i64 0] 137)).alloc (.cells #[.slice (some ⟨w.heap.size + 1, 0, none⟩) 1 1, .int .i64 0, .bool cnt] 140)) := ⟨_, rfl⟩
  rw [← hW0] at c6 WS0 hz0 hB0 ⊢
  clear hW0
  refine range_seq (F := Fence.wide) (n := 5) rfl (by decide) (gf := gf) (lb := lb) rfl trivial hent hseq belowK_t (belowK_b (by omega)) hB0 (fun _ => rfl)
    (fun k W => (W.cell? ⟨w.heap.size, 0, none⟩ = some (.func (.func F) #[] qs) ∧ WSt W (w.heap.size + 1) (w.heap.size + 1 + 1) (lwS C cnt start pl k).1 (lwS C cnt start pl k).2 cnt) ∧ Below w.heap.size w W)
    (OwnFrom.and (Own.from (fun s' A' B' row hs hg hr => ⟨cell_kept hs.1 hg hr, hs.2.keptN hg hr⟩) _) (ownFrom_below (Nat.le_refl _) (by omega)))
    ⟨⟨c6, WS0⟩, hB0⟩
    (fun k => { tmps := #[.int .i64 start, .func (.func gf) #[] lb, .func (.func F) #[] qs, .bool cnt, undef, undef, .pointer (some ⟨w.heap.size, 0, none⟩), undef, .slice none 0 0, .int .i64 0, .bool false, .pointer (some ⟨w.heap.size + 1 + 1, 0, none⟩), .int .i64 (pl k).1, .bool (pl k).2, undef, undef, undef, .int .i64 start, .agg #[.int .i64 start, .int .i64 0, .int .i64 0, .int .i64 0], .slice (some ⟨w.heap.size + 1, 0, none⟩) 1 1, .bool cnt, .agg #[.slice (some ⟨w.heap.size + 1, 0, none⟩) 1 1, .int .i64 0, .bool cnt], .func (.func gf) #[] lb, .int .i64 (pl k).1, .bool (pl k).2, undef, undef, undef, undef, undef, undef, undef, undef, undef, undef, undef, undef, undef, undef, undef, undef, undef, undef, undef, undef, undef, undef, undef], defers := [] }) ?assign ?body ?done
  case assign =>
    intro lp k W K hk hK
    gi_wp2
    exact hK
  case body =>
    rintro lp k W hk ⟨⟨c6, hws⟩, hB⟩
    have hd : (1 : Nat) ≤ 5 - 1 - 1 := by decide
    have EX := hide (HEXT.out k W hk hB hws)
    have LS := hide (show (lwS C cnt start pl (k + 1)) = ((lwS C cnt start pl k).1 ++ extR C cnt (pl k).1 (lwS C cnt start pl k).1 (lwS C cnt start pl k).2, if (pl k).2 = true then (lwS C cnt start pl k).1.length else (lwS C cnt start pl k).2) from rfl)
    obtain ⟨g, c, c0, _, _⟩ := hws.own
    obtain ⟨n1, hn1⟩ : ∃ n, n = (lwS C cnt start pl k).1.length := ⟨_, rfl⟩
    rw [← hn1] at c0 LS
    obtain ⟨fo, hfo⟩ : ∃ f, f = (pl k).2 := ⟨_, rfl⟩
    rw [← hfo] at LS ⊢
    clear hn1 hfo hws
    cases fo
    · have e1 := hide (show (lwS C cnt start pl (k + 1)).1 = _ by rw [LS.out])
      have e2 := hide (show (lwS C cnt start pl (k + 1)).2 = (lwS C cnt start pl k).2 by rw [LS.out]; rfl)
      clear LS
      gi_wp2_with (refine ⟨trivial, ?_⟩; gi_at_call 116; (with_reducible refine (CallsIn.inRound lp (callsIn_wide.2 EX.out)).mono ?_); rintro e W2 ⟨⟨v0, rfl⟩, hw2, hb2, hk2⟩)
      exact ⟨hk2.from _, hb2.mono (by omega), ⟨(hb2.cell (p := ⟨w.heap.size, 0, none⟩) (show w.heap.size < w.heap.size + 1 by omega)).trans c6, by rw [e1.out, e2.out]; exact hw2⟩, hB.trans (hb2.mono (by omega))⟩
    · have e1 := hide (show (lwS C cnt start pl (k + 1)).1 = _ by rw [LS.out])
      have e2 := hide (show (lwS C cnt start pl (k + 1)).2 = n1 by rw [LS.out]; rfl)
      clear LS
      gi_wp2_with ((refine ⟨trivial, ?_⟩; gi_at_call 116; (with_reducible refine (CallsIn.inRound lp (callsIn_wide.2 EX.out)).mono ?_); rintro e W2 ⟨⟨v0, rfl⟩, hw2, hb2, hk2⟩); have k1 := hw2.c1; have k2 := hw2.f1)
      have hb3 := hb2.setCell (p := ⟨w.heap.size + 1 + 1, 1, none⟩) (show w.heap.size + 1 ≤ w.heap.size + 1 + 1 by omega) (.int .i64 n1)
      exact ⟨(ko_set hk2 _ _).from _, hb3.mono (by omega), ⟨(hb3.cell (p := ⟨w.heap.size, 0, none⟩) (show w.heap.size < w.heap.size + 1 by omega)).trans c6, by rw [e1.out, e2.out]; exact hw2.setAct⟩, hB.trans (hb3.mono (by omega))⟩
  case done =>
    rintro D W hD ⟨⟨c6, hws⟩, hB⟩ hK
    obtain ⟨g, c, c0, hgS, hto⟩ := hws.own
    have c1 := hws.c1
    have HW := hide hws
    have hpos := lwS_pos (C := C) (cnt := cnt) (start := start) (pl := pl) (k := N)
    have ED := hide (show lwE C cnt start pl N = (lwS C cnt start pl N).1.drop (lwS C cnt start pl N).2 from rfl)
    have HR := hide (show lwR C cnt start pl N = if lwE C cnt start pl N = [] then ([], 0, false) else (endL (lwS C cnt start pl N).1 (lwB C cnt start pl N).p.toNat (lwB C cnt start pl N), (lwB C cnt start pl N).c, true) from rfl)
    have BD := hide (show lwB C cnt start pl N = minW (tg (lwE C cnt start pl N) 0) ((lwE C cnt start pl N).drop 1) from rfl)
    obtain ⟨R, hR⟩ : ∃ R, R = lwR C cnt start pl N := ⟨_, rfl⟩
    obtain ⟨E, hE⟩ : ∃ E, E = lwE C cnt start pl N := ⟨_, rfl⟩
    obtain ⟨x, hx⟩ : ∃ x, x = lwB C cnt start pl N := ⟨_, rfl⟩
    obtain ⟨ws, hws'⟩ : ∃ x, x = (lwS C cnt start pl N).1 := ⟨_, rfl⟩
    obtain ⟨act, hact⟩ : ∃ x, x = (lwS C cnt start pl N).2 := ⟨_, rfl⟩
    rw [← hR, ← hE, ← hx, ← hws'] at HR
    rw [← hE, ← hx] at BD
    rw [← hE, ← hws', ← hact] at ED
    rw [← hE, ← hx, ← hws'] at HOK
    rw [← hws', ← hact] at HW hpos
    rw [← hact] at c1
    rw [← hws'] at c0 hlen hto
    have HRR := hide hR
    clear hE hx hws' hact hws HEXT hseq hR
    have hEl : E.length = ws.length - act := by rw [ED.out, List.length_drop]
    rcases Nat.eq_zero_or_pos E.length with h0 | h0
    · have E0 := List.eq_nil_of_length_eq_zero h0
      have R0 := hide (show R = ([], 0, false) by rw [HR.out, if_pos E0])
      have hal : act = ws.length := by omega
      have HAL := hide hal
      have hcl : ws.length ≤ c := by
        obtain ⟨_, _, _, _, h, _⟩ := hto.form (by omega)
        exact h
      subst hal
      clear hEl E0 h0 HR ED BD HOK
      obtain ⟨n, hn⟩ : ∃ n, n = ws.length := ⟨_, rfl⟩
      rw [← hn] at c0 c1 hcl
      clear hn hto hpos
      gi_wp2
      all_goals
        refine ⟨by simp, .inl ⟨_, _, rfl, run_takeDeferred hK, ?_⟩⟩
        refine ⟨.tuple #[.slice none 0 0, .int .i64 0, .bool false], ?_, ⟨none, 0, by rw [← HRR.out, R0.out]; rfl, by rw [← HRR.out, R0.out]; exact OL.nil _ _ _, hB.trans (belowK_b (w := W0) (by omega) _ D _ _ hD hK rfl rfl)⟩⟩
        simp [results, Try.results70, go_sem]
    · obtain ⟨m, hm⟩ : ∃ m, m = E.length := ⟨_, rfl⟩
      obtain ⟨n, hn⟩ : ∃ n, n = ws.length := ⟨_, rfl⟩
      have hcl : ws.length ≤ c := by
        obtain ⟨_, _, _, _, h, _⟩ := hto.form (by omega)
        exact h
      obtain ⟨N', hN', hok⟩ := HOK.out (by intro h; rw [h] at h0; simp at h0)
      have R0 := hide (show R = (endL ws N' x, x.c, true) by
        rw [HR.out, if_neg (by intro h; rw [h] at h0; simp at h0), hok.p, Int.toNat_natCast])
      have TLE : TL W (some ⟨g, act * 4, none⟩) m E := by
        have h1 := hto.reads.sub (f := act) (t := ws.length) (by omega) (Nat.le_refl _)
        have h2 : (ws.drop act).take (ws.length - act) = ws.drop act := List.take_of_length_le (by rw [List.length_drop]; omega)
        rw [h2, ← ED.out, ← hEl, ← hm, Nat.zero_add] at h1
        exact h1
      have MF := hide (MinFunc_i W (some ⟨g, act * 4, none⟩) m (c - act) E TLE (by omega) (by omega))
      rw [← BD.out] at MF
      have e1 : n - act = m := by omega
      have CAST : (n : Int) - (act : Int) = (m : Int) := by omega
      have g0 : ((m : Int) == 0) = false := beq_eq_false_iff_ne.2 (by omega)
      have g1 : act ≤ n := by omega
      have g2 : n ≤ c := by omega
      have g3 : ¬ c = act := by omega
      rw [← hn] at c0
      have OKx := hide hok
      have HLN := hide hlen
      clear hok TLE hm hn hcl hEl HR ED BD HOK hlen hto hpos h0
      obtain ⟨x1, x2, x3, x4⟩ := x
      have R1 := hide (show R = (endL ws N' ⟨x1, x2, x3, x4⟩, x3, true) from R0.out)
      clear R0
      gi_wp2_with (refine ⟨trivial, ?_⟩; gi_at_call 117; (with_reducible refine (callsIn_wide.2 MF.out).mono ?_); rintro e u1 ⟨rfl, hb1⟩)
      have W1 := hide (HW.out.below hb1 (Nat.le_refl _))
      have K1 := (hb1.block D (Array.getElem?_eq_some_iff.1 hK).1).trans hK
      have B1 := hide (bl_call hb1 hB)
      have hz1 := hb1.size
      have W2 := hide (W1.out.alloc (.cells #[.int .i64 x1, .int .i64 x2, .int .i64 x3, .int .i64 x4] 137))
      have K2 := (Below.heap_alloc u1 (.cells #[.int .i64 x1, .int .i64 x2, .int .i64 x3, .int .i64 x4] 137) D (Array.getElem?_eq_some_iff.1 K1).1).trans K1
      have B2 := hide (bl_alloc B1.out (.cells #[.int .i64 x1, .int .i64 x2, .int .i64 x3, .int .i64 x4] 137))
      have EO := hide (fun (u : World) (h : WSt u (w.heap.size + 1) (w.heap.size + 1 + 1) ws act cnt) => endsOf_i u (w.heap.size + 1) (w.heap.size + 1 + 1) ws act N' cnt ⟨x1, x2, x3, x4⟩ h OKx.out HLN.out hN')
      have HU := hide (show Below w.heap.size w (u1.alloc (.cells #[.int .i64 x1, .int .i64 x2, .int .i64 x3, .int .i64 x4] 137)).drew from bl_drew B2.out)
      have k0 : (u1.alloc (.cells #[.int .i64 x1, .int .i64 x2, .int .i64 x3, .int .i64 x4] 137)).cell? ⟨u1.heap.size, 0, none⟩ = some (.int .i64 x1) := by simp [go_sem]
      have k1 : (u1.alloc (.cells #[.int .i64 x1, .int .i64 x2, .int .i64 x3, .int .i64 x4] 137)).cell? ⟨u1.heap.size, 1, none⟩ = some (.int .i64 x2) := by simp [go_sem]
      have k2 : (u1.alloc (.cells #[.int .i64 x1, .int .i64 x2, .int .i64 x3, .int .i64 x4] 137)).cell? ⟨u1.heap.size, 2, none⟩ = some (.int .i64 x3) := by simp [go_sem]
      have k3 : (u1.alloc (.cells #[.int .i64 x1, .int .i64 x2, .int .i64 x3, .int .i64 x4] 137)).cell? ⟨u1.heap.size, 3, none⟩ = some (.int .i64 x4) := by simp [go_sem]
      obtain ⟨U, hU⟩ : ∃ U, U = u1.alloc (.cells #[.int .i64 x1, .int .i64 x2, .int .i64 x3, .int .i64 x4] 137) := ⟨_, rfl⟩
      rw [← hU] at W2 K2 B2 HU k0 k1 k2 k3 ⊢
      clear hU W1 K1 B1 MF c0 c1 HW
      first | (gi_region_with (refine ⟨trivial, ?_⟩; gi_at_call 121; (with_reducible refine (callsIn_wide.2 (EO.out _ W2.out.drew)).mono ?_); rintro e u3 ⟨A3, c3, rfl, ho3, hb3⟩; have hb3 := bl_undrew hb3; have k2 := keep_cell hb3 k2)) | fail
      all_goals
        gi_wp2
        have hD2 := (Array.getElem?_eq_some_iff.1 K2).1
        have hK' := (hb3.block D hD2).trans K2
        refine ⟨by simp, .inl ⟨_, _, rfl, run_takeDeferred hK', ?_⟩⟩
        have ho4 : OL _ 3 w.heap.size A3 c3 (endL ws N' ⟨x1, x2, x3, x4⟩) := (ho3.kept (grownBy_putObj' u3 D (.deferred none)) (fun k hk e => by
          have h5 := (ho3.own_lt k hk).1
          cases e
          exact absurd hD2 (by have : U.drew.heap.size = U.heap.size := rfl
                               omega))).more (by have := HU.out.size
                                                 exact this)
        refine ⟨.tuple #[.slice A3 N' c3, .int .i64 x3, .bool true], by simp [results, Try.results70, go_sem], ⟨A3, c3, ?_, by rw [← HRR.out, R1.out]; exact ho4, (bl_call hb3 B2.out).trans (belowK_b (w := W0) (by omega) _ D _ _ hD hK' rfl rfl)⟩⟩
        rw [← HRR.out, R1.out, endL_len]
end Go.Proofs.Ytmncdpiojhgcdaa

/- The least way over known places is a table of least costs. -/
namespace Go.Proofs.Ytmncdpiojhgcdaa
set_option linter.unusedVariables false

/-- Cost, the node before, pieces. -/
abbrev Dn := Int × Nat × Nat
def rx (acc : Option Dn) (d : Option Dn) (v : Option Int) (i : Nat) : Option Dn :=
  match d, v with
  | some x, some n => (match acc with
    | none => some (x.1 + n, i, x.2.2 + 1)
    | some y => if x.1 + n < y.1 then some (x.1 + n, i, x.2.2 + 1) else some y)
  | _, _ => acc
def bst (D : Nat → Option Dn) (g : Nat → Nat → Option Int) (j : Nat) : Nat → Option Dn
  | 0 => none
  | k + 1 => rx (bst D g j k) (D k) (g k j) k
def tbl (g : Nat → Nat → Option Int) : Nat → Nat → Option Dn
  | 0 => fun _ => some (0, 0, 0)
  | j + 1 => fun i => if i ≤ j then tbl g j i else bst (tbl g j) g (j + 1) (j + 1)
def dpD (g : Nat → Nat → Option Int) (j : Nat) : Option Dn := tbl g j j
section
variable {g : Nat → Nat → Option Int}
theorem tbl_le {i : Nat} : ∀ {j : Nat}, i ≤ j → tbl g j i = dpD g i
  | 0, h => by obtain rfl : i = 0 := by omega
               rfl
  | j + 1, h => by
    rcases (by omega : i = j + 1 ∨ i ≤ j) with e | e
    · rw [e]; rfl
    · show (if i ≤ j then _ else _) = _
      rw [if_pos e]; exact tbl_le e
theorem bst_congr {D D' : Nat → Option Dn} {j : Nat} : ∀ {k : Nat}, (∀ i, i < k → D i = D' i) → bst D g j k = bst D' g j k
  | 0, _ => rfl
  | k + 1, h => by simp only [bst]; rw [bst_congr (fun i hi => h i (by omega)), h k (by omega)]
theorem dpD_zero : dpD g 0 = some (0, 0, 0) := rfl
theorem dpD_succ {j : Nat} (h : 0 < j) : dpD g j = bst (dpD g) g j j := by
  obtain ⟨k, rfl⟩ : ∃ k, j = k + 1 := ⟨j - 1, by omega⟩
  show (if k + 1 ≤ k then _ else _) = _
  rw [if_neg (by omega)]
  exact bst_congr (fun i hi => tbl_le (by omega))
theorem rx_no_d {acc : Option Dn} {v : Option Int} {i : Nat} : rx acc none v i = acc := by cases v <;> rfl
theorem rx_no_v {acc d : Option Dn} {i : Nat} : rx acc d none i = acc := by cases d <;> rfl
theorem rx_new {x : Dn} {n : Int} {i : Nat} : rx none (some x) (some n) i = some (x.1 + n, i, x.2.2 + 1) := rfl
theorem rx_less {x y : Dn} {n : Int} {i : Nat} (h : x.1 + n < y.1) : rx (some y) (some x) (some n) i = some (x.1 + n, i, x.2.2 + 1) := by show (if _ then _ else _) = _; rw [if_pos h]
theorem rx_keep {x y : Dn} {n : Int} {i : Nat} (h : ¬ x.1 + n < y.1) : rx (some y) (some x) (some n) i = some y := by show (if _ then _ else _) = _; rw [if_neg h]
/-- Where a best one comes from. -/
theorem bst_from {D : Nat → Option Dn} {j : Nat} {d : Dn} : ∀ {k : Nat}, bst D g j k = some d → d.2.1 < k ∧ ∃ x n, D d.2.1 = some x ∧ g d.2.1 j = some n ∧ d.1 = x.1 + n ∧ d.2.2 = x.2.2 + 1
  | 0, h => by cases h
  | k + 1, h => by
    simp only [bst] at h
    have IH := fun h => bst_from (D := D) (j := j) (d := d) (k := k) h
    cases e1 : D k with
    | none =>
      rw [e1, rx_no_d] at h
      have := IH h
      exact ⟨by omega, this.2⟩
    | some x =>
      cases e2 : g k j with
      | none =>
        rw [e2, rx_no_v] at h
        have := IH h
        exact ⟨by omega, this.2⟩
      | some n =>
        rw [e1, e2] at h
        cases e3 : bst D g j k with
        | none =>
          rw [e3, rx_new] at h
          cases h
          exact ⟨by simp, x, n, e1, e2, rfl, rfl⟩
        | some y =>
          rw [e3] at h
          by_cases hl : x.1 + n < y.1
          · rw [rx_less hl] at h
            cases h
            exact ⟨by simp, x, n, e1, e2, rfl, rfl⟩
          · rw [rx_keep hl] at h
            have := IH (e3.trans h)
            exact ⟨by omega, this.2⟩
/-- It is the least. -/
theorem bst_least {D : Nat → Option Dn} {j : Nat} : ∀ {k i : Nat} {x : Dn} {n : Int}, i < k → D i = some x → g i j = some n → ∃ d, bst D g j k = some d ∧ d.1 ≤ x.1 + n
  | 0, _, _, _, h, _, _ => by omega
  | k + 1, i, x, n, h, h1, h2 => by
    simp only [bst]
    rcases (by omega : i = k ∨ i < k) with e | e
    · subst e
      rw [h1, h2]
      cases e3 : bst D g j i with
      | none => exact ⟨_, rx_new, Int.le_refl _⟩
      | some y =>
        by_cases hl : x.1 + n < y.1
        · exact ⟨_, rx_less hl, Int.le_refl _⟩
        · exact ⟨_, rx_keep hl, by omega⟩
    · obtain ⟨d, e3, hd⟩ := bst_least e h1 h2
      rw [e3]
      cases e1 : D k with
      | none => exact ⟨d, rx_no_d, hd⟩
      | some x' =>
        cases e2 : g k j with
        | none => exact ⟨d, rx_no_v, hd⟩
        | some n' =>
          by_cases hl : x'.1 + n' < d.1
          · exact ⟨_, rx_less hl, by show x'.1 + n' ≤ _; omega⟩
          · exact ⟨_, rx_keep hl, hd⟩
theorem dpD_from {j : Nat} {d : Dn} (h : 0 < j) (e : dpD g j = some d) : d.2.1 < j ∧ ∃ x n, dpD g d.2.1 = some x ∧ g d.2.1 j = some n ∧ d.1 = x.1 + n ∧ d.2.2 = x.2.2 + 1 := bst_from ((dpD_succ h).symm.trans e)
theorem dpD_least {i j : Nat} {x : Dn} {n : Int} (h : i < j) (e : dpD g i = some x) (e2 : g i j = some n) : ∃ d, dpD g j = some d ∧ d.1 ≤ x.1 + n := by
  rw [dpD_succ (by omega)]
  exact bst_least h e e2
theorem dpD_zero_of {d : Dn} (e : dpD g 0 = some d) : d = (0, 0, 0) := by rw [dpD_zero] at e; cases e; rfl
/-- Bounds of the pieces and of the cost. -/
theorem dpD_bd {M : Int} (hM : ∀ i j n, g i j = some n → -M ≤ n ∧ n ≤ M) : ∀ (m : Nat) {j : Nat} {d : Dn}, j < m → dpD g j = some d → d.2.2 ≤ j ∧ -(M * d.2.2) ≤ d.1 ∧ d.1 ≤ M * d.2.2
  | 0, _, _, h, _ => by omega
  | m + 1, j, d, h, e => by
    rcases Nat.eq_zero_or_pos j with e0 | e0
    · subst e0
      have := dpD_zero_of e
      subst this
      simp
    · obtain ⟨h1, x, n, h2, h3, h4, h5⟩ := dpD_from e0 e
      obtain ⟨a, b, c⟩ := dpD_bd hM m (by omega) h2
      obtain ⟨p, q⟩ := hM _ _ _ h3
      rw [h4, h5, show (((x.2.2 + 1 : Nat)) : Int) = (x.2.2 : Int) + 1 by omega, Int.mul_add, Int.mul_one]
      omega
theorem dpD_pos {j : Nat} {d : Dn} (h : 0 < j) (e : dpD g j = some d) : 0 < d.2.2 := by
  obtain ⟨_, x, n, _, _, _, h5⟩ := dpD_from h e
  omega
end
section
variable (g : Nat → Nat → Option Int) (nd : Nat → Int)
/-- How many nodes before this one are known. -/
def ixN : Nat → Nat
  | 0 => 0
  | j + 1 => ixN j + if (dpD g j).isSome = true then 1 else 0
def wyN (j : Nat) (d : Dn) : Wy := ⟨nd j, d.2.2, d.1, ixN g d.2.1⟩
def opN (j : Nat) : Option Dn → List Wy
  | none => []
  | some d => [wyN g nd j d]
def Wn : Nat → List Wy
  | 0 => []
  | j + 1 => Wn j ++ opN g nd j (dpD g j)
def bfN (j : Nat) : Nat := match dpD g j with
  | some d => d.2.1
  | none => 0
/-- The places of the way to a node. -/
def bkL : Nat → Nat → List Int
  | 0, _ => []
  | n + 1, j => bkL n (bfN g j) ++ [nd j]
end
section
variable {g : Nat → Nat → Option Int} {nd : Nat → Int}
theorem bfN_of {j : Nat} {d : Dn} (h : dpD g j = some d) : bfN g j = d.2.1 := by unfold bfN; rw [h]
theorem Wn_len : ∀ {j : Nat}, (Wn g nd j).length = ixN g j
  | 0 => rfl
  | j + 1 => by
    simp only [Wn, ixN, List.length_append, Wn_len]
    cases dpD g j <;> simp [opN]
theorem ixN_le : ∀ {j : Nat}, ixN g j ≤ j
  | 0 => Nat.le_refl _
  | j + 1 => by
    have := ixN_le (j := j)
    simp only [ixN]
    split <;> omega
theorem ixN_mono {i : Nat} : ∀ {j : Nat}, i ≤ j → ixN g i ≤ ixN g j
  | 0, h => by obtain rfl : i = 0 := by omega
               exact Nat.le_refl _
  | j + 1, h => by
    rcases (by omega : i = j + 1 ∨ i ≤ j) with e | e
    · rw [e]; exact Nat.le_refl _
    · have := ixN_mono e
      simp only [ixN]
      omega
theorem ixN_lt {i j : Nat} {d : Dn} (h : i < j) (e : dpD g i = some d) : ixN g i < ixN g j := by
  have h1 := ixN_mono (g := g) (show i + 1 ≤ j from h)
  have h2 : ixN g (i + 1) = ixN g i + 1 := by simp [ixN, e]
  omega
theorem tg_Wn {i : Nat} {d : Dn} (e : dpD g i = some d) : ∀ {j : Nat}, i < j → tg (Wn g nd j) (ixN g i) = wyN g nd i d
  | 0, h => by omega
  | j + 1, h => by
    simp only [Wn]
    rcases (by omega : i = j ∨ i < j) with e1 | e1
    · subst e1
      rw [e, tg_lt (by rw [List.length_append, Wn_len]; simp [opN]), List.getElem_append_right (by rw [Wn_len]; exact Nat.le_refl _)]
      simp [opN, Wn_len]
    · rw [tg_left (by rw [Wn_len]; exact ixN_lt e1 e)]
      exact tg_Wn e e1
theorem gap_eq {i : Nat} : ∀ {j : Nat}, i ≤ j → (∀ m, i ≤ m → m < j → dpD g m = none) → Wn g nd j = Wn g nd i ∧ ixN g j = ixN g i
  | 0, h, _ => by obtain rfl : i = 0 := by omega
                  exact ⟨rfl, rfl⟩
  | j + 1, h, hn => by
    rcases (by omega : i = j + 1 ∨ i ≤ j) with e | e
    · rw [e]; exact ⟨rfl, rfl⟩
    · obtain ⟨a, b⟩ := gap_eq e (fun m h1 h2 => hn m h1 (by omega))
      have := hn j e (by omega)
      simp only [Wn, ixN, this, opN]
      exact ⟨by rw [a]; simp, by rw [b]; simp⟩
end
/-- The node of the last forced place. -/
def afN (pl : Nat → Int × Bool) (pi : Nat → Nat) : Nat → Nat
  | 0 => 0
  | k + 1 => if (pl k).2 = true then pi (k + 1) else afN pl pi k
/-- What a table needs to be the table of a search. -/
structure IsDp (C : Int → Int → Int → Int × Bool) (start : Int) (pl : Nat → Int × Bool) (N : Nat) (g : Nat → Nat → Option Int) (nd : Nat → Int) (pi : Nat → Nat) : Prop where
  one : ∀ p a t, C p a t = C 0 a t
  p0 : pi 0 = 0
  inc : ∀ k, k < N → pi k < pi (k + 1)
  gap : ∀ k, k < N → ∀ m, pi k < m → m < pi (k + 1) → dpD g m = none
  n0 : nd 0 = start
  at_ : ∀ k, k < N → nd (pi (k + 1)) = (pl k).1
  yes : ∀ k, k < N → ∀ i, afN pl pi k ≤ i → i < pi (k + 1) → (dpD g i).isSome = true → (C 0 (nd i) (nd (pi (k + 1)))).2 = true → g i (pi (k + 1)) = some (C 0 (nd i) (nd (pi (k + 1)))).1
  no : ∀ k, k < N → ∀ i, afN pl pi k ≤ i → i < pi (k + 1) → (dpD g i).isSome = true → (C 0 (nd i) (nd (pi (k + 1)))).2 = false → g i (pi (k + 1)) = none
  passed : ∀ k, k < N → ∀ i, i < afN pl pi k → g i (pi (k + 1)) = none
section
variable {C : Int → Int → Int → Int × Bool} {start : Int} {pl : Nat → Int × Bool} {N : Nat} {g : Nat → Nat → Option Int} {nd : Nat → Int} {pi : Nat → Nat}
theorem IsDp.af (h : IsDp C start pl N g nd pi) : ∀ {k : Nat}, k ≤ N → afN pl pi k ≤ pi k
  | 0, _ => by simp [afN]
  | k + 1, hk => by
    have h1 := h.af (k := k) (by omega)
    have h2 := h.inc k (by omega)
    simp only [afN]
    split <;> omega
theorem bst_none {j : Nat} : ∀ {k : Nat}, (∀ i, i < k → g i j = none) → bst (dpD g) g j k = none
  | 0, _ => rfl
  | k + 1, h => by simp only [bst]; rw [h k (by omega), rx_no_v]; exact bst_none (fun i hi => h i (by omega))
theorem stW_of {C : Int → Int → Int → Int × Bool} {cnt : Bool} {tt : Int} {hd : List Wy} {i : Nat} {tl : List Wy} {a p c b : Int} (h : tg hd i = ⟨a, p, c, b⟩) : stW C cnt tt hd i tl = if (C p a tt).2 = true then offT cnt ⟨tt, p + 1, c + (C p a tt).1, i⟩ tl else tl := by
  unfold stW nxW
  simp only [h]
theorem ext_go (h : IsDp C start pl N g nd pi) {k : Nat} (hk : k < N) {J : Nat} (hJ : J = pi (k + 1)) : ∀ (m : Nat) {j : Nat}, j + m = J → afN pl pi k ≤ j →
    extT C false (pl k).1 (Wn g nd J) (ixN g J - ixN g j) (ixN g j) (opN g nd J (bst (dpD g) g J j)) = opN g nd J (bst (dpD g) g J J)
  | 0, j, hm, _ => by
    obtain rfl : j = J := by omega
    rw [Nat.sub_self]
    rfl
  | m + 1, j, hm, ha => by
    have IH := ext_go h hk hJ m (j := j + 1) (by omega) (by omega)
    have hb : bst (dpD g) g J (j + 1) = rx (bst (dpD g) g J j) (dpD g j) (g j J) j := rfl
    cases e : dpD g j with
    | none =>
      rw [e, rx_no_d] at hb
      have : ixN g (j + 1) = ixN g j := by simp [ixN, e]
      rw [hb, this] at IH
      exact IH
    | some x =>
      have h1 : ixN g (j + 1) = ixN g j + 1 := by simp [ixN, e]
      have h2 := ixN_lt (g := g) (show j < J by omega) e
      rw [show ixN g J - ixN g j = (ixN g J - ixN g (j + 1)) + 1 by omega]
      simp only [extT]
      rw [← h1]
      have hT := tg_Wn (nd := nd) e (show j < J by omega)
      rw [← IH, hb, e]
      congr 1
      rw [stW_of hT, h.one (x.2.2 : Int)]
      have hn : nd J = (pl k).1 := by rw [hJ]; exact h.at_ k hk
      have hY := h.yes k hk j ha (by omega) (by rw [e]; rfl)
      have hN := h.no k hk j ha (by omega) (by rw [e]; rfl)
      rw [← hJ, hn] at hY hN
      cases e2 : (C 0 (nd j) (pl k).1).2 with
      | false =>
        rw [if_neg (by simp), hN e2, rx_no_v]
      | true =>
        rw [if_pos rfl, hY e2]
        cases e3 : bst (dpD g) g J j with
        | none =>
          rw [rx_new]
          simp [opN, offT, wyN, hn]
        | some y =>
          by_cases hl : x.1 + (C 0 (nd j) (pl k).1).1 < y.1
          · rw [rx_less hl]
            simp [opN, offT, wyN, hn, hl]
          · rw [rx_keep hl]
            simp [opN, offT, wyN, hn, hl]
theorem lwS_dp (h : IsDp C start pl N g nd pi) : ∀ {k : Nat}, k ≤ N → lwS C false start pl k = (Wn g nd (pi k + 1), ixN g (afN pl pi k))
  | 0, _ => by
    rw [h.p0]
    simp [lwS, Wn, opN, dpD_zero, wyN, h.n0, ixN, afN]
  | k + 1, hk => by
    have IH := lwS_dp h (k := k) (by omega)
    have hi := h.inc k (by omega)
    obtain ⟨g1, g2⟩ := gap_eq (nd := nd) (g := g) (i := pi k + 1) (j := pi (k + 1)) (by omega) (fun m h1 h2 => h.gap k (by omega) m (by omega) h2)
    have haf := h.af (k := k) (by omega)
    have h0 : bst (dpD g) g (pi (k + 1)) (afN pl pi k) = none := bst_none (h.passed k (by omega))
    have E := ext_go h (k := k) (by omega) rfl (pi (k + 1) - afN pl pi k) (j := afN pl pi k) (by omega) (Nat.le_refl _)
    rw [h0] at E
    simp only [lwS]
    rw [IH]
    simp only
    rw [← g1, Wn_len]
    unfold extR
    rw [Wn_len]
    refine Prod.ext ?_ ?_
    · show _ ++ _ = _
      simp only [Wn]
      congr 1
      rw [show ([] : List Wy) = opN g nd (pi (k + 1)) none from rfl, E, dpD_succ (by omega)]
    · show (if _ then _ else _) = _
      simp only [afN]
      split <;> rfl
theorem endL_dp {m : Nat} : ∀ {n j : Nat} {d : Dn}, j < m → dpD g j = some d → d.2.2 = n → endL (Wn g nd m) n (wyN g nd j d) = bkL g nd n j ∧ OKw (Wn g nd m) n (wyN g nd j d)
  | 0, j, d, hj, e, hn => ⟨rfl, by show ((d.2.2 : Nat) : Int) = 0; omega⟩
  | n + 1, j, d, hj, e, hn => by
    have hj0 : 0 < j := by
      rcases Nat.eq_zero_or_pos j with e0 | e0
      · subst e0
        have := dpD_zero_of e
        subst this
        simp at hn
      · exact e0
    obtain ⟨h1, x, v, h2, h3, h4, h5⟩ := dpD_from hj0 e
    obtain ⟨I1, I2⟩ := endL_dp (m := m) (n := n) (j := d.2.1) (by omega) h2 (by omega)
    have hT := tg_Wn (nd := nd) h2 (show d.2.1 < m by omega)
    have hb : (wyN g nd j d).b.toNat = ixN g d.2.1 := by simp [wyN]
    constructor
    · simp only [endL, bkL]
      rw [hb, hT, I1, bfN_of e]
      rfl
    · refine ⟨by show ((d.2.2 : Nat) : Int) = _; rw [hn], ixN g d.2.1, rfl, ?_, ?_⟩
      · rw [Wn_len]; exact ixN_lt (by omega) h2
      · rw [hT]; exact I2
/-- What the search answers. -/
def dpR (g : Nat → Nat → Option Int) (nd : Nat → Int) (j : Nat) : List Int × Int × Bool := match dpD g j with
  | none => ([], 0, false)
  | some d => (bkL g nd d.2.2 j, d.1, true)
theorem lwE_dp (h : IsDp C start pl N g nd pi) (hf : afN pl pi N = pi N) : lwE C false start pl N = opN g nd (pi N) (dpD g (pi N)) := by
  unfold lwE
  rw [lwS_dp h (Nat.le_refl _), hf]
  show List.drop _ (Wn g nd (pi N) ++ _) = _
  rw [← Wn_len (g := g) (nd := nd), List.drop_left]
theorem lwR_dp (h : IsDp C start pl N g nd pi) (hf : afN pl pi N = pi N) : lwR C false start pl N = dpR g nd (pi N) := by
  unfold lwR lwB
  rw [lwE_dp h hf, lwS_dp h (Nat.le_refl _)]
  unfold dpR
  cases e : dpD g (pi N) with
  | none => simp [opN]
  | some d =>
    have := (endL_dp (g := g) (nd := nd) (m := pi N + 1) (n := d.2.2) (j := pi N) (by omega) e rfl).1
    simp only [opN, List.drop_succ_cons, List.drop_zero, minW]
    rw [if_neg (by simp)]
    show (endL _ _ (wyN g nd (pi N) d), _, true) = _
    rw [show (tg [wyN g nd (pi N) d] 0) = wyN g nd (pi N) d from rfl, show (wyN g nd (pi N) d).p.toNat = d.2.2 by simp [wyN], this]
    rfl
theorem lw_ok (h : IsDp C start pl N g nd pi) (hf : afN pl pi N = pi N) {K : Nat} (hK : pi N ≤ K) (hb : ∀ j d, j ≤ pi N → dpD g j = some d → d.2.2 ≤ j) : lwE C false start pl N ≠ [] → ∃ n, n ≤ K ∧ OKw (lwS C false start pl N).1 n (lwB C false start pl N) := by
  unfold lwB
  rw [lwE_dp h hf, lwS_dp h (Nat.le_refl _)]
  cases e : dpD g (pi N) with
  | none => intro h; exact absurd rfl h
  | some d =>
    intro _
    have := hb _ d (Nat.le_refl _) e
    refine ⟨d.2.2, by omega, ?_⟩
    exact (endL_dp (g := g) (nd := nd) (m := pi N + 1) (n := d.2.2) (j := pi N) (by omega) e rfl).2
theorem lwS_len (h : IsDp C start pl N g nd pi) {k : Nat} (hk : k ≤ N) : (lwS C false start pl k).1.length ≤ pi k + 1 := by
  rw [lwS_dp h hk, show (Wn g nd (pi k + 1)).length = _ from Wn_len]
  exact ixN_le
/-- Every way is the way of a node. -/
theorem Wn_at : ∀ {m i : Nat}, i < (Wn g nd m).length → ∃ j d, j < m ∧ dpD g j = some d ∧ i = ixN g j ∧ tg (Wn g nd m) i = wyN g nd j d
  | 0, _, h => by simp [Wn] at h
  | m + 1, i, h => by
    rw [Wn_len] at h
    rcases Nat.lt_or_ge i (ixN g m) with e | e
    · obtain ⟨j, d, h1, h2, h3, h4⟩ := Wn_at (m := m) (i := i) (by rw [Wn_len]; exact e)
      exact ⟨j, d, by omega, h2, h3, by rw [h3]; exact tg_Wn h2 (by omega)⟩
    · cases e2 : dpD g m with
      | none =>
        have : ixN g (m + 1) = ixN g m := by simp [ixN, e2]
        omega
      | some d =>
        have h1 : ixN g (m + 1) = ixN g m + 1 := by simp [ixN, e2]
        obtain rfl : i = ixN g m := by omega
        exact ⟨m, d, by omega, e2, rfl, tg_Wn e2 (by omega)⟩
end
end Go.Proofs.Ytmncdpiojhgcdaa
