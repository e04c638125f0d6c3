/- The reader of drawn arguments: pick returns a number below its bound, and writes nothing but the reader's own place. -/
import Derived.Test.YtlfhfbeacleggabFrame
import Derived.Laws.BitsAllLaws
import Derived.Laws.BitsLemmas
import Derived.IntWalk
namespace Go.Proofs.Ytlfhfbeacleggab
open Go.ChangeShapes Go.WideShapes Go.ChangeAt Go.RowKit
set_option linter.unusedSimpArgs false
set_option linter.unusedVariables false

section
variable {w w' w1 : World} {g : Nat}
theorem on_refl (w : World) (r : Option Nat) : w.grownBy w r := World.grownBy.refl w r
theorem on_drewN {a w : World} {row : Option Nat} (h : a.grownBy w row) (n : Nat) : a.grownBy (w.drewN n) row := ⟨h.os, h.tape, h.output, h.size, h.block⟩
theorem on_drew {a w : World} {row : Option Nat} (h : a.grownBy w row) : a.grownBy w.drew row := ⟨h.os, h.tape, h.output, h.size, h.block⟩
theorem on_undrew {a w : World} {row : Option Nat} (h : a.drew.grownBy w row) : a.grownBy w row := ⟨h.os, h.tape, h.output, h.size, h.block⟩
theorem on_alloc {a w : World} {row : Option Nat} (h : a.grownBy w row) (o : Obj) : a.grownBy (w.alloc o) row :=
  ⟨h.os, h.tape, h.output, Nat.le_trans h.size (by simp), fun i hi hne => (Below.heap_alloc w o i (Nat.lt_of_lt_of_le hi h.size)).trans (h.block i hi hne)⟩
theorem on_set {a w : World} {g : Nat} (h : a.grownBy w (some g)) {p : Addr} (hp : p.block = g ∨ a.heap.size ≤ p.block) (u : Value) : a.grownBy (w.setCell p u) (some g) :=
  ⟨h.os, h.tape, h.output, by simpa [World.setCell] using h.size, fun i hi hne => (Below.heap_setCell w p u i (by
    rintro rfl
    rcases hp with hp | hp
    · exact hne (by rw [hp])
    · omega)).trans (h.block i hi hne)⟩
theorem on_call {a w w1 : World} {g : Nat} (h : w.grownBy w1 (some g)) (h0 : a.grownBy w (some g)) : a.grownBy w1 (some g) :=
  ⟨h.os.trans h0.os, h.tape.trans h0.tape, h.output.trans h0.output, Nat.le_trans h0.size h.size, fun i hi hne => (h.block i (Nat.lt_of_lt_of_le hi h0.size) hne).trans (h0.block i hi hne)⟩
theorem on_below {a w w1 : World} {g : Nat} (h : Below w.heap.size w w1) (h0 : a.grownBy w (some g)) : a.grownBy w1 (some g) :=
  ⟨h.os.trans h0.os, h.tape.trans h0.tape, h.output.trans h0.output, Nat.le_trans h0.size h.size, fun i hi hne => (h.block i (Nat.lt_of_lt_of_le hi h0.size)).trans (h0.block i hi hne)⟩
theorem on_cell {a w : World} {g : Nat} (h : a.grownBy w (some g)) : ∀ b o, b < a.heap.size → b ≠ g → w.cell? ⟨b, o, none⟩ = a.cell? ⟨b, o, none⟩ := fun b o hb hne => World.cell?_of_block (h.block b hb (fun e => hne (by injection e)))
theorem on_frozen {a w : World} {g : Nat} (h : a.grownBy w (some g)) : ∀ b o, b < a.heap.size → b ≠ g → w.frozen? ⟨b, o, none⟩ = a.frozen? ⟨b, o, none⟩ := fun b o hb hne => World.frozen?_of_block (h.block b hb (fun e => hne (by injection e)))
theorem on_new {a w : World} {g : Nat} (h : a.grownBy w (some g)) (hg : a.heap.size ≤ g) : Below a.heap.size a w :=
  ⟨h.os, h.tape, h.output, h.size, fun i hi => h.block i hi (fun e => by injection e with e; omega)⟩
end

theorem heap_new2 (W : World) (A o : Obj) : ((W.alloc A).alloc o).heap[W.heap.size + 1]? = some o := by
  have := heap_alloc_new (W.alloc A) o
  simpa using this
theorem heap_new2d (W : World) (A o : Obj) : ((W.alloc A).alloc o).drew.heap[W.heap.size + 1]? = some o := heap_new2 W A o

/-- The reader at block g: its bytes are bytes, its place is at most N; it and its bytes lie below B. -/
def RD (w : World) (B g N : Nat) : Prop :=
  g < B ∧ B ≤ w.heap.size ∧ ∃ (A : Option Addr) (n c p : Nat), w.cell? ⟨g, 0, none⟩ = some (.slice A n c) ∧ w.cell? ⟨g, 1, none⟩ = some (.int .i64 p) ∧ w.frozen? ⟨g, 1, none⟩ = false ∧ p ≤ N ∧ n ≤ 2000 ∧
    (0 < n → ∃ b o, A = some ⟨b, o, none⟩ ∧ b ≠ g ∧ b < B ∧ ∀ i, i < n → ∃ z : Int, 0 ≤ z ∧ z ≤ 255 ∧ w.cell? ⟨b, o + i, none⟩ = some (.int .u8 z))
theorem RD.lt {w : World} {B g N : Nat} (h : RD w B g N) : g < w.heap.size := Nat.lt_of_lt_of_le h.1 h.2.1
theorem RD.more {w : World} {B B' g N M : Nat} (h : RD w B g N) (hm : N ≤ M) (hb : B ≤ B') (hw : B' ≤ w.heap.size) : RD w B' g M := by
  obtain ⟨h1, h2, A, n, c, p, h3, h4, h5, h6, h7, h8⟩ := h
  refine ⟨by omega, hw, A, n, c, p, h3, h4, h5, by omega, h7, fun hn => ?_⟩
  obtain ⟨b, o, e, hne, hlt, hc⟩ := h8 hn
  exact ⟨b, o, e, hne, by omega, hc⟩
/-- What keeps all cells below B keeps the reader. -/
theorem RD.keep {w w' : World} {B g N : Nat} (h : RD w B g N) (hc : ∀ q : Addr, q.block < B → w'.cell? q = w.cell? q) (hf : ∀ q : Addr, q.block < B → w'.frozen? q = w.frozen? q) (hz : w.heap.size ≤ w'.heap.size) : RD w' B g N := by
  obtain ⟨h1, h2, A, n, c, p, h3, h4, h5, h6, h7, h8⟩ := h
  refine ⟨h1, by omega, A, n, c, p, (hc _ h1).trans h3, (hc _ h1).trans h4, (hf _ h1).trans h5, h6, h7, fun hn => ?_⟩
  obtain ⟨b, o, e, hne, hlt, hk⟩ := h8 hn
  refine ⟨b, o, e, hne, hlt, fun i hi => ?_⟩
  obtain ⟨z, z0, z1, hz⟩ := hk i hi
  exact ⟨z, z0, z1, (hc _ hlt).trans hz⟩
theorem RD.below {w w' : World} {B g N : Nat} (h : RD w B g N) (hb : Below w.heap.size w w') : RD w' B g N :=
  h.keep (fun _ hq => hb.cell (Nat.lt_of_lt_of_le hq h.2.1)) (fun _ hq => hb.frozen (Nat.lt_of_lt_of_le hq h.2.1)) hb.size
theorem RD.alloc {w : World} {B g N : Nat} (h : RD w B g N) (o : Obj) : RD (w.alloc o) B g N := h.below (bl_alloc (bl_refl _) _)
theorem RD.drewN {w : World} {B g N : Nat} (h : RD w B g N) (k : Nat) : RD (w.drewN k) B g N := h
theorem RD.drew {w : World} {B g N : Nat} (h : RD w B g N) : RD w.drew B g N := h
theorem RD.set_ {w : World} {B g N : Nat} (h : RD w B g N) {p : Addr} (hp : B ≤ p.block) (u : Value) : RD (w.setCell p u) B g N :=
  h.keep (fun q hq => World.cell?_setCell_other w p q u (fun e => by subst e; omega)) (fun q hq => by simp) (by simp)

abbrev gvr (a b c : Int) : Value := .agg #[.int .i64 a, .int .i64 b, .int .i64 c]
/-- What pick returns and leaves. -/
def Pick (w : World) (B g N : Nat) (n : Int) (e : Ending) (w' : World) : Prop := ∃ r : Int, 0 ≤ r ∧ r < n ∧ e = .returned (.int .i64 r) ∧ RD w' B g (N + 1) ∧ w.grownBy w' (some g)

theorem ofInt_i64 (a : Nat) (ha : a < 9223372036854775808) : (BitVec.ofInt 64 (a : Int)).toNat = a := by
  rw [BitVec.ofInt_natCast, BitVec.toNat_ofNat]; exact Nat.mod_eq_of_lt (by omega)
theorem xor_nat (a b : Nat) (ha : a < 9223372036854775808) (hb : b < 9223372036854775808) : bits .xor .i64 (a : Int) (b : Int) = ((a ^^^ b : Nat) : Int) := by
  have hx : a ^^^ b < 2 ^ 63 := Nat.xor_lt_two_pow (by omega) (by omega)
  show IntKind.i64.wrap ((BitVec.ofInt 64 (a : Int) ^^^ BitVec.ofInt 64 (b : Int)).toNat : Int) = _
  rw [BitVec.toNat_xor, ofInt_i64 a ha, ofInt_i64 b hb, IntKind.wrap_i64]
  omega
theorem xor_pos (x : Int) (h0 : 0 ≤ x) (h1 : x < 9223372036854775808) : 0 ≤ bits .xor .i64 x (x / 64) := by
  obtain ⟨n, rfl⟩ := Int.eq_ofNat_of_zero_le h0
  have e : (n : Int) / 64 = ((n / 64 : Nat) : Int) := by simp
  rw [e, xor_nat n (n / 64) (by omega) (by omega)]
  omega

theorem RD.step {w : World} {B g N p : Nat} (h : RD w B g N) (h2 : w.cell? ⟨g, 1, none⟩ = some (.int .i64 p)) (k : Nat) : RD ((w.setCell ⟨g, 1, none⟩ (.int .i64 (p + 1))).drewN k) B g (N + 1) := by
  obtain ⟨hg, hB, A, n, c, p', h1, h2', h3, h4, h5, h6⟩ := h
  have e : p' = p := by
    rw [h2'] at h2
    exact_mod_cast (by simpa using h2 : (p' : Int) = p)
  subst e
  have far : ∀ q : Addr, q ≠ ⟨g, 1, none⟩ → ((w.setCell ⟨g, 1, none⟩ (.int .i64 (p' + 1))).drewN k).cell? q = w.cell? q := fun q hq => World.cell?_setCell_other w _ q _ (Ne.symm hq)
  refine ⟨hg, ?_, A, n, c, p' + 1, (far _ (by simp)).trans h1, ?_, ?_, by omega, h5, fun hn => ?_⟩
  · show B ≤ (w.setCell _ _).heap.size
    simpa using hB
  · show (w.setCell _ _).cell? _ = _
    rw [World.cell?_setCell_same (h := h2')]
    rfl
  · show (w.setCell _ _).frozen? _ = _
    simpa using h3
  · obtain ⟨b, o, e, hne, hlt, hc⟩ := h6 hn
    refine ⟨b, o, e, hne, hlt, fun i hi => ?_⟩
    obtain ⟨z, z0, z1, hz⟩ := hc i hi
    exact ⟨z, z0, z1, (far _ (by first | (simp; done) | (simp; intro e; exact absurd e hne))).trans hz⟩

theorem pick_end {w : World} {B g N : Nat} {n r : Int} {A : Option Addr} {m c p : Nat} (h : RD w B g N) (h1 : w.cell? ⟨g, 0, none⟩ = some (.slice A m c)) (h2 : w.cell? ⟨g, 1, none⟩ = some (.int .i64 p)) {e : Ending}
    (r0 : 0 ≤ r) (r1 : r < n) (he : e = .returned (.int .i64 r)) (k : Nat) : Pick w B g N n e ((w.setCell ⟨g, 1, none⟩ (.int .i64 (p + 1))).drewN k) :=
  ⟨r, r0, r1, he, h.step h2 k, on_drewN (on_set (on_refl _ _) (.inl rfl) _) k⟩

theorem pick_any (w : World) (B g N : Nat) (n : Int) (h : RD w B g N) (hN : N ≤ 1000000000000) (n0 : 1 ≤ n) (n1 : n ≤ 4294967296) :
    Calls Try.prog 27 #[.pointer (some ⟨g, 0, none⟩), .int .i64 n] w (Pick w B g N n) := by
  have H := hide h
  obtain ⟨hg, hB, A, m, c, p, h1, h2, h3, h4, h5, h6⟩ := h
  have hl := World.block_lt_of_cell? w _ h1
  have hn0 : (n == 0) = false := by simp; omega
  rcases Nat.eq_zero_or_pos m with hm | hm
  · subst hm
    go_enter Try.func27, Try.ntmps27
    go_wp2
    go_ret
    exact pick_end H h1 h2 (by omega) (by omega) rfl 0
  · obtain ⟨b, o, rfl, hne, hlt, hc⟩ := h6 hm
    have hm0 : ((m : Int) == 0) = false := by simp; omega
    by_cases hp : p < m
    · obtain ⟨z, z0, z1, hz⟩ := hc p hp
      clear hc h6
      go_enter Try.func27, Try.ntmps27
      go_wp2
      go_ret
      exact pick_end H h1 h2 (Int.emod_nonneg _ (by omega)) (Int.emod_lt_of_pos _ (by omega)) rfl 0
    · have hmi : (0 : Int) < (m : Int) := by omega
      have i0 : 0 ≤ (p : Int) % (m : Int) := Int.emod_nonneg _ (by omega)
      have i1 : (p : Int) % (m : Int) < (m : Int) := Int.emod_lt_of_pos _ (by omega)
      have j0 : 0 ≤ ((p : Int) * 7 + 3) % (m : Int) := Int.emod_nonneg _ (by omega)
      have j1 : ((p : Int) * 7 + 3) % (m : Int) < (m : Int) := Int.emod_lt_of_pos _ (by omega)
      obtain ⟨z, z0, z1, hz⟩ := hc ((p : Int) % (m : Int)).toNat (by omega)
      obtain ⟨y, y0, y1, hy⟩ := hc (((p : Int) * 7 + 3) % (m : Int)).toNat (by omega)
      have k0 : 0 ≤ (p : Int) / (m : Int) := Int.ediv_nonneg (by omega) (by omega)
      have k1 : (p : Int) / (m : Int) ≤ (p : Int) := Int.ediv_le_self _ (by omega)
      clear hc h6
      go_enter Try.func27, Try.ntmps27
      go_wp2
      have hm1 : ¬ ((m : Int) = 0) := by omega
      have hm2 : ¬ (m = 0) := by omega
      have e1 : (p : Int).tmod (m : Int) = (p : Int) % (m : Int) := Int.tmod_eq_emod_of_nonneg (by omega)
      have e2 : ((p : Int) * 7 + 3).tmod (m : Int) = ((p : Int) * 7 + 3) % (m : Int) := Int.tmod_eq_emod_of_nonneg (by omega)
      have e3 : (p : Int).tdiv (m : Int) = (p : Int) / (m : Int) := Int.tdiv_eq_ediv_of_nonneg (by omega)
      have w1 : IntKind.i64.wrap ((p : Int) % (m : Int)) = (p : Int) % (m : Int) := IntWalk.i64_in _ (by omega)
      have w2 : IntKind.i64.wrap ((p : Int) * 7) = (p : Int) * 7 := IntWalk.i64_in _ (by omega)
      have w3 : IntKind.i64.wrap ((p : Int) * 7 + 3) = (p : Int) * 7 + 3 := IntWalk.i64_in _ (by omega)
      have w4 : IntKind.i64.wrap (((p : Int) * 7 + 3) % (m : Int)) = ((p : Int) * 7 + 3) % (m : Int) := IntWalk.i64_in _ (by omega)
      have w5 : IntKind.i64.wrap (z * 131) = z * 131 := IntWalk.i64_in _ (by omega)
      have w6 : IntKind.i64.wrap (y * 1117) = y * 1117 := IntWalk.i64_in _ (by omega)
      have w7 : IntKind.i64.wrap (z * 131 + y * 1117) = z * 131 + y * 1117 := IntWalk.i64_in _ (by omega)
      have w8 : IntKind.i64.wrap ((p : Int) * 29) = (p : Int) * 29 := IntWalk.i64_in _ (by omega)
      have w9 : IntKind.i64.wrap (z * 131 + y * 1117 + (p : Int) * 29) = z * 131 + y * 1117 + (p : Int) * 29 := IntWalk.i64_in _ (by omega)
      have w10 : IntKind.i64.wrap ((p : Int) / (m : Int)) = (p : Int) / (m : Int) := IntWalk.i64_in _ (by omega)
      have w11 : IntKind.i64.wrap ((p : Int) / (m : Int) * 53) = (p : Int) / (m : Int) * 53 := IntWalk.i64_in _ (by omega)
      have w12 : IntKind.i64.wrap (z * 131 + y * 1117 + (p : Int) * 29 + (p : Int) / (m : Int) * 53) = z * 131 + y * 1117 + (p : Int) * 29 + (p : Int) / (m : Int) * 53 := IntWalk.i64_in _ (by omega)
      go_quiet (fail)
      clear e1 e2 e3 w1 w2 w3 w4 w5 w6 w7 w8 w9 w10 w11 w12
      have X2 : 0 ≤ bits .xor .i64 (z * 131 + y * 1117 + (p : Int) * 29 + (p : Int) / (m : Int) * 53) ((z * 131 + y * 1117 + (p : Int) * 29 + (p : Int) / (m : Int) * 53) / 64) := xor_pos _ (by omega) (by omega)
      go_wp2
      go_ret
      exact pick_end H h1 h2 (Int.emod_nonneg _ (by omega)) (Int.emod_lt_of_pos _ (by omega)) rfl _

theorem one_any (w : World) (B g N b n : Nat) {cs : Array Value} (P : Int → Prop) {t : TypeId} (h : RD w B g N) (hN : N ≤ 1000000000000) (hb : w.heap[b]? = some (.cells cs t (0, 0))) (hne : b ≠ g) (hn : n = cs.size) (hL : 1 ≤ n ∧ n ≤ 65536)
    (hP : ∀ v ∈ cs.toList, ∃ z, v = .int .i64 z ∧ P z) :
    Calls Try.prog 26 #[.pointer (some ⟨g, 0, none⟩), .slice (some ⟨b, 0, none⟩) n n] w fun e w' => ∃ r : Int, P r ∧ e = .returned (.int .i64 r) ∧ RD w' B g (N + 1) ∧ w.grownBy w' (some g) := by
  obtain ⟨hL0, hL1⟩ := hL
  have hlt : b < w.heap.size := by
    rcases Nat.lt_or_ge b w.heap.size with h | h
    · exact h
    · rw [Array.getElem?_eq_none h] at hb; cases hb
  go_enter Try.func26, Try.ntmps26
  go_wp2_with fail
  refine (pick_any _ B g _ _ h hN (by omega) (by omega)).mono ?_
  rintro e w' ⟨r, hr0, hr1, rfl, hrd, hon⟩
  obtain ⟨z, hz, hp⟩ := hP cs[r.toNat] (by simp)
  have hcell : w'.cell? ⟨b, r.toNat, none⟩ = some (.int .i64 z) := by
    rw [on_cell hon b r.toNat hlt hne, cell_of_row w b r.toNat cs t (0, 0) hb, ← hz]
    simp
  clear hz
  go_wp2
  go_ret
  exact ⟨z, hp, rfl, hrd, hon⟩


theorem newReader_any (w : World) (a : Option Addr) (n c : Nat) (zs : List Int) (h : IsRow .u8 w a n c zs) :
    Calls Try.prog 18 #[.slice a n c] w fun e w' => e = .returned (.pointer (some ⟨w.heap.size, 0, none⟩)) ∧ RD w' (w.heap.size + 1) w.heap.size 0 ∧ Below w.heap.size w w' := by
  rcases h with ⟨rfl, rfl, rfl, rfl⟩ | ⟨ad, rfl, hl, hm, hz, hcell, hwz⟩
  · go_enter Try.func18, Try.ntmps18
    go_wp2
    go_ret
    refine ⟨rfl, ⟨by omega, by simp, none, 0, 0, 0, by simp, by simp, by simp, by omega, by omega, fun h => by omega⟩, ?_⟩
    repeat' (first | with_reducible exact bl_refl _ | with_reducible assumption | with_reducible refine bl_alloc ?_ _ | with_reducible refine bl_set ?_ ?_ _ | with_reducible refine bl_drewN ?_ _ | with_reducible refine bl_drew ?_ | with_reducible refine bl_call (by assumption) ?_)
  · have hs : 0 < n → ∃ b o, ad = ⟨b, o, none⟩ ∧ b < w.heap.size ∧ ∀ i, i < n → ∃ z : Int, 0 ≤ z ∧ z ≤ 255 ∧ w.cell? ⟨b, o + i, none⟩ = some (.int .u8 z) := by
      intro hn
      obtain ⟨b, o, spot⟩ := ad
      have h0 := hcell 0 (by omega)
      have hspot : spot = none := by simpa [Addr.add] using World.cell?_spot h0
      subst hspot
      refine ⟨b, o, rfl, World.block_lt_of_cell? w _ (by simpa [Addr.add] using h0), fun i hi => ?_⟩
      have hi' : i < zs.length := by omega
      have hw := hwz (zs.getD i 0) (by simp [List.getD, List.getElem?_eq_getElem hi'])
      have hb := bounds_u8 hw
      refine ⟨zs.getD i 0, hb.1, hb.2, ?_⟩
      rw [← hcell i hi']
      congr 1
      by_cases h0 : i = 0 <;> simp [Addr.add, h0]
    clear hcell hwz
    have hs' : ∀ (k : Nat) (W : World), k ≤ n → k ≤ 2000 → Below w.heap.size w W → RD (W.alloc (.cells #[.slice (some ad) k c, .int .i64 0] 57)) (W.heap.size + 1) W.heap.size 0 := by
      intro k W hk hk2 hb
      refine ⟨by omega, by simp, some ad, k, c, 0, by simp, by simp, by simp, by omega, by omega, fun h0 => ?_⟩
      obtain ⟨b, o, rfl, hbl, hall⟩ := hs (by omega)
      refine ⟨b, o, rfl, by have := hb.size; omega, by have := hb.size; omega, fun i hi => ?_⟩
      obtain ⟨z, z0, z1, hz⟩ := hall i (by omega)
      exact ⟨z, z0, z1, keep_alloc (keep_cell hb hz) _⟩
    rcases (by omega : n ≤ 2000 ∨ 2000 < n) with hn | hn
    · have H := hide (hs' n w (by omega) (by omega) (bl_refl _))
      clear hs hs'
      go_enter Try.func18, Try.ntmps18
      go_wp2
      go_ret
      refine ⟨rfl, H.out, ?_⟩
      repeat' (first | with_reducible exact bl_refl _ | with_reducible assumption | with_reducible refine bl_alloc ?_ _ | with_reducible refine bl_set ?_ ?_ _ | with_reducible refine bl_drewN ?_ _ | with_reducible refine bl_drew ?_ | with_reducible refine bl_call (by assumption) ?_)
    · have H := hide (hs' 2000 w (by omega) (by omega) (bl_refl _))
      clear hs hs'
      go_enter Try.func18, Try.ntmps18
      go_wp2
      go_ret
      refine ⟨rfl, H.out, ?_⟩
      repeat' (first | with_reducible exact bl_refl _ | with_reducible assumption | with_reducible refine bl_alloc ?_ _ | with_reducible refine bl_set ?_ ?_ _ | with_reducible refine bl_drewN ?_ _ | with_reducible refine bl_drew ?_ | with_reducible refine bl_call (by assumption) ?_)

theorem small_row {k : IntKind} {w : World} {a : Option Addr} {n c : Nat} {zs : List Int} (h : IsRow k w a n c zs) : n ≤ maxLen := by
  rcases h with ⟨_, rfl, _, _⟩ | ⟨_, _, hl, hm, _⟩
  · exact Nat.zero_le _
  · omega


theorem IsRow.below {k : IntKind} {w w' : World} {a : Option Addr} {n c : Nat} {zs : List Int} (h : IsRow k w a n c zs) (hb : Below w.heap.size w w') : IsRow k w' a n c zs := by
  rcases h with h | ⟨x, e, h1, h2, h3, h4, h5⟩
  · exact .inl h
  · exact .inr ⟨x, e, h1, h2, h3, fun i hi => keep_cell hb (h4 i hi), h5⟩
end Go.Proofs.Ytlfhfbeacleggab
