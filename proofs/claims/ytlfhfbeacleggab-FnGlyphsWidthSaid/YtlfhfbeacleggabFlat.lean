/- Types that hold integers, booleans and texts alone: what a slice of them reads as. They speak of no program. -/
import Derived.Test.YtlfhfbeacleggabILists
import Derived.Deep.Slices
import Derived.Lib.SmallJoins
namespace Go.Proofs.Ytlfhfbeacleggab
open Go.ChangeShapes Go.WideShapes Go.ChangeAt Go.RowKit
set_option linter.unusedSimpArgs false
set_option linter.unusedVariables false

/-- What one cell may hold. -/
inductive CK where
  | int (k : IntKind)
  | bool
  | str
def okCell : CK → Value → Prop
  | .int k, v => ∃ n, v = .int k n ∧ (Lit.int k n).wf = true
  | .bool, v => ∃ b, v = .bool b
  | .str, v => ∃ s : ByteArray, v = .string s ∧ s.size ≤ maxLen
def okCells : List CK → List Value → Prop
  | [], [] => True
  | k :: ks, v :: vs => okCell k v ∧ okCells ks vs
  | _, _ => False
theorem okCells.append {a b : List CK} {x y : List Value} (h : okCells a x) (k : okCells b y) : okCells (a ++ b) (x ++ y) := by
  induction a generalizing x with
  | nil => cases x with
    | nil => exact k
    | cons v x => cases h
  | cons c a ih => cases x with
    | nil => cases h
    | cons v x => exact ⟨h.1, ih h.2⟩
theorem okCells.length {a : List CK} {x : List Value} (h : okCells a x) : x.length = a.length := by
  induction a generalizing x with
  | nil => cases x with
    | nil => rfl
    | cons v x => cases h
  | cons c a ih => cases x with
    | nil => cases h
    | cons v x => simp [ih h.2]

theorem okCells.cons {k : CK} {ks : List CK} {x : List Value} (h : okCells (k :: ks) x) : ∃ v vs, x = v :: vs ∧ okCell k v ∧ okCells ks vs := by
  cases x with
  | nil => cases h
  | cons v vs => exact ⟨v, vs, rfl, h.1, h.2⟩
theorem okCells.done {x : List Value} (h : okCells [] x) : x = [] := by
  cases x with
  | nil => rfl
  | cons v vs => cases h

def flatFs (P : Program) (g : TypeId → Option (List CK)) : List Field → Nat → Option (List CK)
  | [], _ => some []
  | fd :: fs, off => match g fd.type with
    | none => none
    | some ks => if fd.offset = off ∧ P.cellsOf fd.type = ks.length then (flatFs P g fs (off + ks.length)).map (ks ++ ·) else none
/-- The kinds of a type's cells, if it holds nothing else. -/
def flat (P : Program) : Nat → TypeId → Option (List CK)
  | 0, _ => none
  | f + 1, t => match P.underlying t with
    | some .bool => some [.bool]
    | some (.int k) => some [.int k]
    | some .string => some [.str]
    | some (.struct fs) => match flatFs P (flat P f) fs.toList 0 with
      | some ks => if P.cellsOf t = ks.length then some ks else none
      | none => none
    | _ => none

section
variable {H : Type} {enc : TypeId × Value → H} {P : Program} {w : World} {base : Nat} {sp : Nat → Bool} {held : Bool}
theorem flatFs_ok {g : TypeId → Option (List CK)} {n : Nat} {cs : List Value} (ih : ∀ t ks cs x, g t = some ks → DataW.trod enc P w base sp held n t cs = some x → okCells ks cs) {l : List Field} {off : Nat} {ks : List CK} (h : flatFs P g l off = some ks)
    (hl : ∀ fd ∈ l, ∃ y, DataW.trod enc P w base sp held n fd.type ((cs.drop fd.offset).take (P.cellsOf fd.type)) = some y) : okCells ks ((cs.drop off).take ks.length) := by
  induction l generalizing off ks with
  | nil => simp [flatFs] at h; subst h; simp [okCells]
  | cons fd fs ihl =>
    simp only [flatFs] at h
    cases hg : g fd.type with
    | none => simp [hg] at h
    | some k1 =>
      simp only [hg] at h
      split at h
      · rename_i hc
        obtain ⟨ho, hcl⟩ := hc
        cases h2 : flatFs P g fs (off + k1.length) with
        | none => simp [h2] at h
        | some k2 =>
          rw [h2] at h
          simp at h
          subst h
          obtain ⟨y, hy⟩ := hl fd (List.mem_cons_self ..)
          have a := ih _ _ _ _ hg hy
          rw [ho, hcl] at a
          have b := ihl h2 (fun fd' hfd => hl fd' (List.mem_cons_of_mem _ hfd))
          have := a.append b
          rw [List.length_append, List.take_add, List.drop_drop]
          exact this
      · cases h
theorem flat_ok {f n : Nat} {t : TypeId} {ks : List CK} {cs : List Value} {x : DataW H × List MemPlace} (h : flat P f t = some ks) (hx : DataW.trod enc P w base sp held n t cs = some x) : okCells ks cs := by
  induction f generalizing t ks cs x n with
  | zero => cases h
  | succ f ih =>
    unfold flat at h
    split at h
    · rename_i hu
      injection h with h; subst h
      obtain ⟨b, rfl, _⟩ := DataW.trod_bool hu hx
      exact ⟨⟨b, rfl⟩, trivial⟩
    · rename_i hu
      injection h with h; subst h
      obtain ⟨b, rfl, _, hw⟩ := DataW.trod_int hu hx
      exact ⟨⟨b, rfl, hw⟩, trivial⟩
    · rename_i hu
      injection h with h; subst h
      obtain ⟨b, rfl, _, hw⟩ := DataW.trod_string hu hx
      exact ⟨⟨b, rfl, hw⟩, trivial⟩
    · rename_i fs hu
      obtain ⟨xs, m, rfl, _, hlen, hxl, hall⟩ := DataW.trod_struct hu hx
      cases hf : flatFs P (flat P f) fs.toList 0 with
      | none => simp [hf] at h
      | some k1 =>
        simp only [hf] at h
        split at h
        · rename_i hc
          injection h with h; subst h
          have := flatFs_ok (n := m) (cs := cs) (fun t ks cs x h1 h2 => ih h1 h2) hf (fun fd hfd => by
            obtain ⟨i, hi, e⟩ := List.getElem_of_mem hfd
            have hi' : i < fs.size := by simpa using hi
            have e2 : fs[i]? = some fd := by rw [Array.getElem?_eq_getElem hi', ← e]; simp
            have e3 := hall i fd e2
            rw [List.getElem?_eq_getElem (by omega)] at e3
            exact ⟨_, e3⟩)
          rw [List.drop_zero, ← hc, ← hlen, List.take_length] at this
          exact this
        · cases h
    · cases h

/-- A slice of such a type that came in: each element's cells. -/
theorem flat_slice {t e : TypeId} {f : Nat} {ks : List CK} {a : Option Addr} {n c : Nat} {d : DataW H} {p : List MemPlace} (ht : P.underlying t = some (.slice e)) (hk : flat P f e = some ks) (hm : P.cellsOf e = ks.length) (h0 : 0 < ks.length)
    (h : DataW.Trod enc P w base sp held t (.slice a n c) d p) : n ≤ maxLen ∧ (0 < n → ∃ b o, a = some ⟨b, o, none⟩ ∧ b < w.heap.size ∧ ∀ i, i < n → ∃ cs, okCells ks cs ∧ ∀ j, j < ks.length → w.cell? ⟨b, o + i * ks.length + j, none⟩ = cs[j]?) := by
  obtain ⟨fuel, hf⟩ := h
  simp only [Value.cells, List.toList_toArray] at hf
  rcases Go.Deep.open_slice ht hf with ⟨he, _⟩ | ⟨ad, len, cap, m, n', D, Pl, he, hb, hl, hcm, hmm, _, hall⟩
  · simp at he
    obtain ⟨_, rfl, _⟩ := he
    exact ⟨Nat.zero_le _, fun h => by omega⟩
  · simp at he
    obtain ⟨rfl, rfl, rfl⟩ := he
    have hm1 : n ≤ m := by rw [hmm]; split <;> omega
    refine ⟨by omega, fun hn => ?_⟩
    have hcell : ∀ i, i < n → ∃ cs, okCells ks cs ∧ ∀ j, j < ks.length → w.cell? (ad.add (i * ks.length + j)) = cs[j]? := by
      intro i hi
      obtain ⟨cs, h1, h2⟩ := hall i (by omega)
      have ok := flat_ok hk h2
      refine ⟨cs, ok, fun j hj => ?_⟩
      rw [hm] at h1
      obtain ⟨_, hl2, h3⟩ := World.cells?_some h1
      rw [← Go.Deep.add_add]
      exact h3 j hj
    obtain ⟨b, o, spot⟩ := ad
    obtain ⟨cs0, ok0, hc0⟩ := hcell 0 hn
    have e0 := hc0 0 h0
    rw [List.getElem?_eq_getElem (by rw [ok0.length]; exact h0)] at e0
    have hspot : spot = none := by simpa [Addr.add] using World.cell?_spot e0
    subst hspot
    refine ⟨b, o, rfl, World.block_lt_of_cell? w _ (by simpa [Addr.add] using e0), fun i hi => ?_⟩
    obtain ⟨cs, ok, hc⟩ := hcell i hi
    refine ⟨cs, ok, fun j hj => ?_⟩
    rw [← hc j hj]
    congr 1
    generalize i * ks.length = q
    by_cases h0 : q + j = 0
    · obtain rfl : q = 0 := by omega
      obtain rfl : j = 0 := by omega
      simp [Addr.add]
    · unfold Addr.add
      rw [if_neg h0]
      simp only [Nat.add_assoc]
end

/-- A record: its cells. -/
class Rec (α : Type) where
  size : Nat
  pos : 0 < size
  cells : α → List Value
  len : ∀ a, (cells a).length = size
  dflt : α
/-- The k-th record. -/
def tg {α : Type} [Rec α] (L : List α) (k : Nat) : α := L.getD k Rec.dflt
/-- A slice that reads as a list of records. -/
def TL {α : Type} [Rec α] (w : World) (A : Option Addr) (n : Nat) (L : List α) : Prop :=
  n = L.length ∧ (0 < n → ∃ b o, A = some ⟨b, o, none⟩ ∧ b < w.heap.size ∧ ∀ i, i < n → ∀ j, j < Rec.size α → w.cell? ⟨b, o + i * Rec.size α + j, none⟩ = (Rec.cells (tg L i))[j]?)
/-- A slice of records that the call made. -/
def TO {α : Type} [Rec α] (w : World) (e : TypeId) (B : Nat) (A : Option Addr) (c : Nat) (L : List α) : Prop := w.ownsRow B e (Rec.size α) (.slice A L.length c) L.length (L.flatMap Rec.cells)

section
variable {α : Type} [Rec α]
theorem tg_lt {L : List α} {k : Nat} (h : k < L.length) : tg L k = L[k] := by simp [tg, List.getD, List.getElem?_eq_getElem h]
theorem tg_get {L : List α} {k : Nat} (h : k < L.length) : L[k]? = some (tg L k) := by rw [tg_lt h, List.getElem?_eq_getElem h]
theorem tg_mem {L : List α} {k : Nat} (h : k < L.length) : tg L k ∈ L := by rw [tg_lt h]; exact List.getElem_mem h
theorem flat_len (L : List α) : (L.flatMap Rec.cells).length = L.length * Rec.size α := by
  induction L with
  | nil => simp
  | cons a L ih => simp [ih, Rec.len, Nat.add_mul]; omega
theorem flat_get (L : List α) {i j : Nat} (hi : i < L.length) (hj : j < Rec.size α) : (L.flatMap Rec.cells)[i * Rec.size α + j]? = (Rec.cells (tg L i))[j]? := by
  induction L generalizing i with
  | nil => simp at hi
  | cons a L ih =>
    have hl := Rec.len a
    cases i with
    | zero => simp [tg, List.getElem?_append_left (show j < (Rec.cells a).length by omega)]
    | succ i =>
      rw [List.flatMap_cons, List.getElem?_append_right (by rw [hl, Nat.add_mul]; omega), hl, show (i + 1) * Rec.size α + j - Rec.size α = i * Rec.size α + j from by rw [Nat.add_mul]; omega]
      rw [ih (by simpa using hi)]
      rfl
/-- The first k records, then cells that are not yet written. -/
theorem TL.at_ {w : World} {A : Option Addr} {n : Nat} {L : List α} (h : TL w A n L) {i : Nat} (hi : i < n) : ∃ b o, A = some ⟨b, o, none⟩ ∧ b < w.heap.size ∧ ∀ j, j < Rec.size α → w.cell? ⟨b, o + i * Rec.size α + j, none⟩ = (Rec.cells (tg L i))[j]? := by
  obtain ⟨b, o, e, hb, hc⟩ := h.2 (by omega)
  exact ⟨b, o, e, hb, hc i hi⟩
theorem TL.nil (w : World) (A : Option Addr) : TL w A 0 ([] : List α) := ⟨rfl, fun h => by omega⟩
theorem TL.below {w w' : World} {A : Option Addr} {n : Nat} {L : List α} (h : TL w A n L) (hb : Below w.heap.size w w') : TL w' A n L :=
  ⟨h.1, fun h0 => by
    obtain ⟨b, o, e, hl, hc⟩ := h.2 h0
    exact ⟨b, o, e, Nat.lt_of_lt_of_le hl hb.size, fun i hi j hj => ((hb.cell (p := ⟨b, o + i * Rec.size α + j, none⟩) hl)).trans (hc i hi j hj)⟩⟩
theorem TL.alloc {w : World} {A : Option Addr} {n : Nat} {L : List α} (h : TL w A n L) (o : Obj) : TL (w.alloc o) A n L := h.below (bl_alloc (bl_refl _) _)
theorem TL.drewN {w : World} {A : Option Addr} {n : Nat} {L : List α} (h : TL w A n L) (k : Nat) : TL (w.drewN k) A n L := h
theorem TL.drew {w : World} {A : Option Addr} {n : Nat} {L : List α} (h : TL w A n L) : TL w.drew A n L := h

variable {w w' : World} {A : Option Addr} {c B B' : Nat} {e : TypeId} {L : List α}
theorem TO.drewN (h : TO w e B A c L) (k : Nat) : TO (w.drewN k) e B A c L := h
theorem TO.drew (h : TO w e B A c L) : TO w.drew e B A c L := h
theorem own_more {size n : Nat} {v : Value} {xs : List Value} (h : w.ownsRow B e size v n xs) (hB : B' ≤ B) : w.ownsRow B' e size v n xs := by
  refine ⟨h.1, ?_⟩
  rcases h.2 with h0 | ⟨g, cap, cur, h1, h2, h3⟩
  · exact .inl h0
  · exact .inr ⟨g, cap, cur, h1, by omega, h3⟩
theorem own_below {size n : Nat} {v : Value} {xs : List Value} (h : w.ownsRow B e size v n xs) (hb : Below w.heap.size w w') : w'.ownsRow B e size v n xs := by
  refine ⟨h.1, ?_⟩
  rcases h.2 with h0 | ⟨g, cap, cur, h1, h2, h3, h4⟩
  · exact .inl h0
  · refine .inr ⟨g, cap, cur, h1, h2, ?_, h4⟩
    rw [hb.block g (Array.getElem?_eq_some_iff.1 h3).1]
    exact h3
theorem TO.more (h : TO w e B A c L) (hB : B' ≤ B) : TO w e B' A c L := own_more h hB
theorem TO.below (h : TO w e B A c L) (hb : Below w.heap.size w w') : TO w' e B A c L := own_below h hb
theorem TO.alloc (h : TO w e B A c L) (o : Obj) : TO (w.alloc o) e B A c L := h.below (bl_alloc (bl_refl _) _)
theorem TO.own_lt (h : TO w e B A c L) : ∀ k, (Value.slice A L.length c).ownBlock = some k → B ≤ k ∧ k < w.heap.size := fun k hk => World.ownsRow.lt h k hk
theorem TO.kept {row : Option Nat} (h : TO w e B A c L) (hg : w.grownBy w' row) (hne : ∀ k, (Value.slice A L.length c).ownBlock = some k → row ≠ some k) : TO w' e B A c L := by
  refine World.ownsRow.kept h hg ?_
  cases hv : (Value.slice A L.length c).ownBlock with
  | none => exact .inl rfl
  | some k => exact .inr (fun e => hne k hv e.symm)
theorem TO.nil (w : World) (e : TypeId) (B : Nat) : TO w e B none 0 ([] : List α) := World.ownsRow_nil _ _ _ _
theorem own_form {size n : Nat} {xs : List Value} (h : w.ownsRow B e size (.slice A n c) n xs) (h0 : 0 < n) : ∃ g, A = some ⟨g, 0, none⟩ ∧ B ≤ g ∧ g < w.heap.size ∧ n ≤ c ∧ c ≤ maxLen := by
  rcases h.2 with ⟨_, h1⟩ | ⟨g, cap, cur, h1, h2, h3, h4, h5, _⟩
  · omega
  · injection h1 with h1 _ h6
    subst h6
    exact ⟨g, h1, h2, (Array.getElem?_eq_some_iff.1 h3).1, h4, h5⟩
theorem TO.form (h : TO w e B A c L) (h0 : 0 < L.length) : ∃ g, A = some ⟨g, 0, none⟩ ∧ B ≤ g ∧ g < w.heap.size ∧ L.length ≤ c ∧ c ≤ maxLen := own_form h h0
theorem TO.len (h : TO w e B A c L) : L.length ≤ maxLen := by
  rcases Nat.eq_zero_or_pos L.length with h0 | h0
  · omega
  · obtain ⟨_, _, _, _, h1, h2⟩ := h.form h0
    omega
theorem TO.reads (h : TO w e B A c L) : TL w A L.length L := by
  refine ⟨rfl, fun h0 => ?_⟩
  obtain ⟨g, rfl, _, hg, _⟩ := h.form h0
  refine ⟨g, 0, rfl, hg, fun i hi j hj => ?_⟩
  have hlt : i * Rec.size α + j < L.length * Rec.size α := by
    have : (i + 1) * Rec.size α ≤ L.length * Rec.size α := Nat.mul_le_mul_right _ hi
    rw [Nat.add_mul] at this
    omega
  have := World.ownsRow.cellAt h (i * Rec.size α + j) hlt
  rw [Nat.zero_add, this, flat_get L hi hj]
theorem TO.frozen (h : TO w e B A c L) (h0 : 0 < L.length) : ∃ g, A = some ⟨g, 0, none⟩ ∧ B ≤ g ∧ g < w.heap.size ∧ ∀ i, w.frozen? ⟨g, i, none⟩ = false := by
  obtain ⟨g, rfl, h1, hg, _⟩ := h.form h0
  exact ⟨g, rfl, h1, hg, fun i => World.ownsRow.frozenAt h i⟩
theorem TO.apart {u : World} {e' : TypeId} {d : Nat} {A' : Option Addr} {m : Nat} {size : Nat} {xs : List Value} (h : TO w e B A c L) (h' : u.ownsRow w.heap.size e' size (.slice A' m d) m xs) : ∀ k, (Value.slice A L.length c).ownBlock = some k → (Value.slice A' m d).ownBlock ≠ some k := fun k hk hk' => by
  have h1 := (h.own_lt k hk).2
  have h2 := (World.ownsRow.lt h' k hk').1
  omega
/-- All cells of records' rows, in flat form: those of the first k records are written. -/
def vmix (l m : List Value) (k : Nat) : List Value := l.take k ++ m.drop k
theorem vmix_zero (l m : List Value) : vmix l m 0 = m := by simp [vmix]
theorem vmix_all {l m : List Value} {n : Nat} (h : m.length = l.length) (hn : l.length = n) : vmix l m n = l := by subst hn; rw [vmix, List.take_length, List.drop_eq_nil_of_le (by omega), List.append_nil]
theorem vmix_len {l m : List Value} (h : m.length = l.length) (k : Nat) : (vmix l m k).length = l.length := by simp [vmix]; omega
theorem vmix_put {l m : List Value} {k : Nat} {v : Value} (h : m.length = l.length) (hv : l[k]? = some v) : (vmix l m k).set k v = vmix l m (k + 1) := by
  have hk : k < l.length := (List.getElem?_eq_some_iff.1 hv).1
  apply List.ext_getElem?
  intro j
  simp only [vmix, List.getElem?_set, List.getElem?_append, List.length_append, List.length_take, List.length_drop, List.getElem?_take, List.getElem?_drop]
  by_cases hj : j = k
  · subst hj
    have e2 : j < min (j + 1) l.length := by omega
    have e3 : j < min j l.length + (m.length - j) := by omega
    simp [e2, e3, hv, show j < j + 1 from by omega]
  · by_cases hl : j < k
    · have e1 : j < min k l.length := by omega
      have e2 : j < min (k + 1) l.length := by omega
      simp [Ne.symm hj, e1, e2, hl, show j < k + 1 from by omega]
    · simp [Ne.symm hj, hl, show ¬ j < k + 1 from by omega, show min k l.length = k from by omega, show min (k + 1) l.length = k + 1 from by omega, show k + (j - k) = j from by omega, show k + 1 + (j - (k + 1)) = j from by omega]
end

/-- An item. -/
structure It where
  k : Int
  w : Int
  st : Int
  sh : Int
  p : Int
  f : Bool
abbrev itv (x : It) : Value := .agg #[.int .i64 x.k, .int .i64 x.w, .int .i64 x.st, .int .i64 x.sh, .int .i64 x.p, .bool x.f]
instance : Rec It := ⟨6, by decide, fun x => [.int .i64 x.k, .int .i64 x.w, .int .i64 x.st, .int .i64 x.sh, .int .i64 x.p, .bool x.f], fun _ => rfl, ⟨0, 0, 0, 0, 0, false⟩⟩
/-- A pair of glyphs. -/
structure Gp where
  a : Int
  b : Int
  v : Int
instance : Rec Gp := ⟨3, by decide, fun x => [.int .i64 x.a, .int .i64 x.b, .int .i64 x.v], fun _ => rfl, ⟨0, 0, 0⟩⟩
theorem TL.at6 {w : World} {A : Option Addr} {n : Nat} {L : List It} (h : TL w A n L) {i : Nat} (hi : i < n) : ∃ b o, A = some ⟨b, o, none⟩ ∧ b < w.heap.size ∧ w.cell? ⟨b, o + i * 6, none⟩ = some (.int .i64 (tg L i).k) ∧ w.cell? ⟨b, o + i * 6 + 1, none⟩ = some (.int .i64 (tg L i).w) ∧
    w.cell? ⟨b, o + i * 6 + 2, none⟩ = some (.int .i64 (tg L i).st) ∧ w.cell? ⟨b, o + i * 6 + 3, none⟩ = some (.int .i64 (tg L i).sh) ∧ w.cell? ⟨b, o + i * 6 + 4, none⟩ = some (.int .i64 (tg L i).p) ∧ w.cell? ⟨b, o + i * 6 + 5, none⟩ = some (.bool (tg L i).f) := by
  obtain ⟨b, o, e, hb, hc⟩ := h.at_ hi
  exact ⟨b, o, e, hb, hc 0 (by decide), hc 1 (by decide), hc 2 (by decide), hc 3 (by decide), hc 4 (by decide), hc 5 (by decide)⟩
theorem TL.at3 {w : World} {A : Option Addr} {n : Nat} {L : List Gp} (h : TL w A n L) {i : Nat} (hi : i < n) : ∃ b o, A = some ⟨b, o, none⟩ ∧ b < w.heap.size ∧ w.cell? ⟨b, o + i * 3, none⟩ = some (.int .i64 (tg L i).a) ∧ w.cell? ⟨b, o + i * 3 + 1, none⟩ = some (.int .i64 (tg L i).b) ∧ w.cell? ⟨b, o + i * 3 + 2, none⟩ = some (.int .i64 (tg L i).v) := by
  obtain ⟨b, o, e, hb, hc⟩ := h.at_ hi
  exact ⟨b, o, e, hb, hc 0 (by decide), hc 1 (by decide), hc 2 (by decide)⟩

/-- A slice of items that came in. -/
theorem items_in {H : Type} {enc : TypeId × Value → H} {P : Program} {w : World} {base : Nat} {sp : Nat → Bool} {held : Bool} {t e : TypeId} {a : Option Addr} {n c : Nat} {d : DataW H} {p : List MemPlace} (ht : P.underlying t = some (.slice e))
    (hk : flat P 5 e = some [.int .i64, .int .i64, .int .i64, .int .i64, .int .i64, .bool]) (hm : P.cellsOf e = 6) (h : DataW.Trod enc P w base sp held t (.slice a n c) d p) : ∃ L : List It, TL w a n L ∧ n ≤ maxLen ∧ ∀ x ∈ L, (Lit.int .i64 x.k).wf = true ∧ (Lit.int .i64 x.w).wf = true ∧ (Lit.int .i64 x.st).wf = true ∧ (Lit.int .i64 x.sh).wf = true ∧ (Lit.int .i64 x.p).wf = true := by
  obtain ⟨h1, h2⟩ := flat_slice ht hk hm (by decide) h
  rcases Nat.eq_zero_or_pos n with h0 | h0
  · subst h0
    exact ⟨[], TL.nil _ _, h1, fun x hx => by cases hx⟩
  · obtain ⟨b, o, rfl, hb, hall⟩ := h2 h0
    have hall2 : ∀ i, i < n → ∃ x : It, ((Lit.int .i64 x.k).wf = true ∧ (Lit.int .i64 x.w).wf = true ∧ (Lit.int .i64 x.st).wf = true ∧ (Lit.int .i64 x.sh).wf = true ∧ (Lit.int .i64 x.p).wf = true) ∧ ∀ j, j < 6 → w.cell? ⟨b, o + i * 6 + j, none⟩ = (Rec.cells x)[j]? := by
      intro i hi
      obtain ⟨cs, ok, hc⟩ := hall i hi
      obtain ⟨_, _, rfl, ⟨a1, rfl, w1⟩, k1⟩ := ok.cons
      obtain ⟨_, _, rfl, ⟨a2, rfl, w2⟩, k2⟩ := k1.cons
      obtain ⟨_, _, rfl, ⟨a3, rfl, w3⟩, k3⟩ := k2.cons
      obtain ⟨_, _, rfl, ⟨a4, rfl, w4⟩, k4⟩ := k3.cons
      obtain ⟨_, _, rfl, ⟨a5, rfl, w5⟩, k5⟩ := k4.cons
      obtain ⟨_, _, rfl, ⟨a6, rfl⟩, k6⟩ := k5.cons
      obtain rfl := k6.done
      exact ⟨⟨a1, a2, a3, a4, a5, a6⟩, ⟨w1, w2, w3, w4, w5⟩, hc⟩
    haveI : Inhabited It := ⟨⟨0, 0, 0, 0, 0, false⟩⟩
    obtain ⟨f, hf⟩ := Go.Deep.choose_lt hall2
    refine ⟨(List.range n).map f, ⟨by simp, fun _ => ⟨b, o, rfl, hb, fun i hi j hj => ?_⟩⟩, h1, fun x hx => ?_⟩
    · rw [show tg ((List.range n).map f) i = f i from by simp [tg, List.getD, hi]]
      exact (hf i hi).2 j hj
    · obtain ⟨i, hi, rfl⟩ := List.mem_map.1 hx
      exact (hf i (List.mem_range.1 hi)).1
/-- A slice of pairs of glyphs that came in. -/
theorem pairs_in {H : Type} {enc : TypeId × Value → H} {P : Program} {w : World} {base : Nat} {sp : Nat → Bool} {held : Bool} {t e : TypeId} {a : Option Addr} {n c : Nat} {d : DataW H} {p : List MemPlace} (ht : P.underlying t = some (.slice e))
    (hk : flat P 5 e = some [.int .i64, .int .i64, .int .i64]) (hm : P.cellsOf e = 3) (h : DataW.Trod enc P w base sp held t (.slice a n c) d p) : ∃ L : List Gp, TL w a n L ∧ n ≤ maxLen := by
  obtain ⟨h1, h2⟩ := flat_slice ht hk hm (by decide) h
  rcases Nat.eq_zero_or_pos n with h0 | h0
  · subst h0
    exact ⟨[], TL.nil _ _, h1⟩
  · obtain ⟨b, o, rfl, hb, hall⟩ := h2 h0
    have hall2 : ∀ i, i < n → ∃ x : Gp, ∀ j, j < 3 → w.cell? ⟨b, o + i * 3 + j, none⟩ = (Rec.cells x)[j]? := by
      intro i hi
      obtain ⟨cs, ok, hc⟩ := hall i hi
      obtain ⟨_, _, rfl, ⟨a1, rfl, w1⟩, k1⟩ := ok.cons
      obtain ⟨_, _, rfl, ⟨a2, rfl, w2⟩, k2⟩ := k1.cons
      obtain ⟨_, _, rfl, ⟨a3, rfl, w3⟩, k3⟩ := k2.cons
      obtain rfl := k3.done
      exact ⟨⟨a1, a2, a3⟩, hc⟩
    haveI : Inhabited Gp := ⟨⟨0, 0, 0⟩⟩
    obtain ⟨f, hf⟩ := Go.Deep.choose_lt hall2
    refine ⟨(List.range n).map f, ⟨by simp, fun _ => ⟨b, o, rfl, hb, fun i hi j hj => ?_⟩⟩, h1⟩
    rw [show tg ((List.range n).map f) i = f i from by simp [tg, List.getD, hi]]
    exact hf i hi j hj
end Go.Proofs.Ytlfhfbeacleggab
