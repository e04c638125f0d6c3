/- The binary search of glyph pairs finds what a search from the front finds. -/
import Derived.Test.YtlfhfbeacleggabPairs
namespace Go.Proofs.Ytlfhfbeacleggab
open Go.ChangeShapes Go.WideShapes Go.ChangeAt Go.RowKit
set_option linter.unusedSimpArgs false
set_option linter.unusedVariables false

abbrev tv (a b c : Int) : Value := .agg #[.int .i64 a, .int .i64 b, .int .i64 c]

theorem key_i (a b c : Int) (w : World) (h1 : -1000000 ≤ a ∧ a ≤ 1000000) (h2 : -1000000 ≤ b ∧ b ≤ 1000000) :
    Calls Try.prog 43 #[tv a b c] w fun e w' => e = .returned (.int .i64 (a * 36 + b)) ∧ Below w.heap.size w w' := by
  obtain ⟨h1, h1'⟩ := h1
  obtain ⟨h2, h2'⟩ := h2
  go_enter Try.func43, Try.ntmps43
  go_wp2
  go_ret
  refine ⟨rfl, ?_⟩
  repeat' (first | with_reducible exact bl_refl _ | with_reducible assumption | with_reducible refine bl_alloc ?_ _ | with_reducible refine bl_set ?_ ?_ _ | with_reducible refine bl_drewN ?_ _ | with_reducible refine bl_drew ?_ | with_reducible refine bl_call (by assumption) ?_)

def kyOf (L : List Gp) (k : Nat) : Int := (tg L k).a * 36 + (tg L k).b

/-- All keys ahead of i are less, none from j on is. -/
def Nar (L : List Gp) (key : Int) (i j : Nat) : Prop := (∀ x, x < i → kyOf L x < key) ∧ ∀ x, j ≤ x → x < L.length → key ≤ kyOf L x
theorem Nar.start (L : List Gp) (key : Int) : Nar L key 0 L.length := ⟨fun x h => by omega, fun x h k => by omega⟩

/-- Nothing that was there has turned; the first new block holds three zeros that may be written. -/
def Own3 (w u : World) : Prop := Below w.heap.size w u ∧ w.heap.size < u.heap.size ∧ u.cell? ⟨w.heap.size, 0, none⟩ = some (.int .i64 0) ∧ u.cell? ⟨w.heap.size, 1, none⟩ = some (.int .i64 0) ∧ u.cell? ⟨w.heap.size, 2, none⟩ = some (.int .i64 0) ∧
  u.frozen? ⟨w.heap.size, 0, none⟩ = false ∧ u.frozen? ⟨w.heap.size, 1, none⟩ = false ∧ u.frozen? ⟨w.heap.size, 2, none⟩ = false
theorem Nar.up {L : List Gp} {key : Int} {i j m : Nat} (h : Nar L key i j) (hasc : ∀ i j, i < j → j < L.length → kyOf L i < kyOf L j) (hm : m < L.length) (hk : (tg L m).a * 36 + (tg L m).b < key) : Nar L key (m + 1) j :=
  ⟨fun x hx => by
    have hk' : kyOf L m < key := hk
    rcases (by omega : x < m ∨ x = m) with e | e
    · have := hasc x m e hm; omega
    · rw [e]; exact hk', h.2⟩
theorem Nar.down {L : List Gp} {key : Int} {i j m : Nat} (h : Nar L key i j) (hasc : ∀ i j, i < j → j < L.length → kyOf L i < kyOf L j) (hm : m < L.length) (hk : key ≤ (tg L m).a * 36 + (tg L m).b) : Nar L key i m :=
  ⟨h.1, fun x hx hl => by
    have hk' : key ≤ kyOf L m := hk
    rcases (by omega : m < x ∨ x = m) with e | e
    · have := hasc m x e hl; omega
    · rw [e]; exact hk'⟩
theorem Own3.call {w u u' : World} (h : Own3 w u) (hb : Below u.heap.size u u') : Own3 w u' := by
  obtain ⟨h0, hz, f0, f1, f2, d0, d1, d2⟩ := h
  exact ⟨bl_call hb h0, Nat.lt_of_lt_of_le hz hb.size, keep_cell hb f0, keep_cell hb f1, keep_cell hb f2, ((bcell hb).2 _ _ hz).trans d0, ((bcell hb).2 _ _ hz).trans d1, ((bcell hb).2 _ _ hz).trans d2⟩
theorem keep_below {w u : World} (h : Below w.heap.size w u) {p : Addr} {v : Value} (hc : w.cell? p = some v) : u.cell? p = some v := keep_cell h hc

/-- What the search answers. -/
def Sought (w : World) (L : List Gp) (key : Int) (e : Ending) (w' : World) : Prop := Below w.heap.size w w' ∧
  ((∃ m, m < L.length ∧ kyOf L m = key ∧ e = .returned (.tuple #[tv (tg L m).a (tg L m).b (tg L m).v, .bool true])) ∨
   (∀ m, m < L.length → kyOf L m ≠ key) ∧ e = .returned (.tuple #[tv 0 0 0, .bool false]))
theorem Nar.none_ {L : List Gp} {key : Int} {i : Nat} (h : Nar L key i i) (hi : i < L.length → kyOf L i ≠ key) (hasc : ∀ i j, i < j → j < L.length → kyOf L i < kyOf L j) : ∀ m, m < L.length → kyOf L m ≠ key := fun m hm => by
  rcases (by omega : m < i ∨ m = i ∨ i < m) with e | e | e
  · have := h.1 m e; omega
  · rw [e]; exact hi (by omega)
  · have h1 := h.2 i (by omega) (by omega)
    have h2 := hasc i m e hm
    omega

set_option maxHeartbeats 800000 in
theorem searchKey_i (w : World) (A : Option Addr) (n c : Nat) (L : List Gp) (key : Int) (h : TL w A n L) (hn : n ≤ 1000) (hg : ∀ i, i < n → (0 ≤ (tg L i).a ∧ (tg L i).a ≤ 35) ∧ (0 ≤ (tg L i).b ∧ (tg L i).b ≤ 35))
    (hasc : ∀ i j, i < j → j < n → kyOf L i < kyOf L j) :
    Calls Try.prog 42 #[.slice A n c, .int .i64 key] w (Sought w L key) := by
  obtain rfl : n = L.length := h.1
  rcases Nat.eq_zero_or_pos L.length with h0 | h0
  · have M : Hid (∀ m, m < L.length → kyOf L m ≠ key) := hide (fun m hm => by omega)
    rw [h0]
    go_enter Try.func42, Try.ntmps42
    go_wp2
    go_loopw [6, 7] (fun lo hi u => lo = .int .i64 0 ∧ hi = .int .i64 0 ∧ Own3 w u) (fun _ _ _ => 0)
    case atStart =>
      refine ⟨rfl, rfl, ⟨?_, by simp, by simp, by simp, by simp, by simp, by simp, by simp⟩⟩
      repeat' (first | with_reducible exact bl_refl _ | with_reducible assumption | with_reducible refine bl_alloc ?_ _ | with_reducible refine bl_set ?_ ?_ _ | with_reducible refine bl_drewN ?_ _ | with_reducible refine bl_drew ?_ | with_reducible refine bl_call (by assumption) ?_)
    case round =>
      obtain ⟨rfl, rfl, hb0, hz0, f0, f1, f2, d0, d1, d2⟩ := hrel
      go_wp2
      refine bodyPost_ret (v := .tuple #[tv 0 0 0, .bool false]) (by simp [results, Try.results42, go_sem, f0, f1, f2, hz0]) rfl ⟨?_, .inr ⟨M.out, rfl⟩⟩
      repeat' (first | with_reducible exact bl_refl _ | with_reducible assumption | with_reducible refine bl_alloc ?_ _ | with_reducible refine bl_set ?_ ?_ _ | with_reducible refine bl_drewN ?_ _ | with_reducible refine bl_drew ?_ | with_reducible refine bl_call (by assumption) ?_)
      all_goals (first | omega | (simp; done) | (simp; omega))
  · obtain ⟨bb, o, rfl, hb, hc⟩ := h.open3 h0
    have hmth : ∀ (v : Value) (W : World), (method 180 35 v "loop.example/typesetting/impl.key").run Try.prog W = .ok (43, v) W := fun _ _ => by kernel_rfl
    go_enter Try.func42, Try.ntmps42
    go_wp2
    go_loopw [6, 7] (fun lo hi u => ∃ i j : Nat, i ≤ j ∧ j ≤ L.length ∧ lo = .int .i64 i ∧ hi = .int .i64 j ∧ Nar L key i j ∧ Own3 w u) (fun lo hi _ => (intOf hi).toNat - (intOf lo).toNat)
    case atStart =>
      refine ⟨0, L.length, by omega, by omega, rfl, rfl, Nar.start L key, ⟨?_, by simp, by simp, by simp, by simp, by simp, by simp, by simp⟩⟩
      repeat' (first | with_reducible exact bl_refl _ | with_reducible assumption | with_reducible refine bl_alloc ?_ _ | with_reducible refine bl_set ?_ ?_ _ | with_reducible refine bl_drewN ?_ _ | with_reducible refine bl_drew ?_ | with_reducible refine bl_call (by assumption) ?_)
    case round =>
      obtain ⟨i, j, hij, hj, rfl, rfl, hnar, hb0, hz0, f0, f1, f2, d0, d1, d2⟩ := hrel
      have Hnar := hide hnar
      clear hnar
      by_cases hlt : i < j
      · obtain ⟨m, hm⟩ : ∃ m : Nat, m = (i + j) / 2 := ⟨_, rfl⟩
        have hm0 : i ≤ m := by omega
        have hm1 : m < j := by omega
        have hme : ((i : Int) + (j : Int)) / 2 = (m : Int) := by omega
        obtain ⟨c0, c1, c2⟩ := hc m (by omega)
        replace c0 := keep_below hb0 c0
        replace c1 := keep_below hb0 c1
        replace c2 := keep_below hb0 c2
        obtain ⟨⟨g0, g1⟩, g2, g3⟩ := hg m (by omega)
        clear hm hc hg
        by_cases hk : (tg L m).a * 36 + (tg L m).b < key
        · have M := hide (Hnar.out.up hasc (by omega : m < L.length) hk)
          go_wp2_with fail
          refine (key_i _ _ _ _ ⟨by omega, by omega⟩ ⟨by omega, by omega⟩).mono ?_
          rintro e w' ⟨rfl, hb⟩
          have O := hide (Own3.call ⟨hb0, hz0, f0, f1, f2, d0, d1, d2⟩ hb)
          clear hb hb0 hz0 f0 f1 f2 d0 d1 d2 hasc
          go_wp2
          go_roundw
          case rel => exact ⟨m + 1, j, by omega, by omega, by go_num, rfl, M.out, O.out⟩
          case measure => simp [intOf]; omega
        · have M := hide (Hnar.out.down hasc (by omega : m < L.length) (by omega : key ≤ (tg L m).a * 36 + (tg L m).b))
          go_wp2_with fail
          refine (key_i _ _ _ _ ⟨by omega, by omega⟩ ⟨by omega, by omega⟩).mono ?_
          rintro e w' ⟨rfl, hb⟩
          have O := hide (Own3.call ⟨hb0, hz0, f0, f1, f2, d0, d1, d2⟩ hb)
          clear hb hb0 hz0 f0 f1 f2 d0 d1 d2 hasc
          go_wp2
          go_roundw
          case rel => exact ⟨i, m, by omega, by omega, rfl, rfl, M.out, O.out⟩
          case measure => simp [intOf]; omega
      · obtain rfl : i = j := by omega
        clear hij
        rcases (by omega : i = L.length ∨ i < L.length) with hi | hi
        · have M := hide (Hnar.out.none_ (fun h => by omega) hasc)
          have hi' : ¬ i < L.length := by omega
          have hi2 : ¬ ((i : Int) < (L.length : Int)) := by omega
          clear hi hlt hasc
          go_wp2
          refine bodyPost_ret (v := .tuple #[tv 0 0 0, .bool false]) (by simp [results, Try.results42, go_sem, f0, f1, f2, hz0]) rfl ⟨?_, .inr ⟨M.out, rfl⟩⟩
          repeat' (first | with_reducible exact bl_refl _ | with_reducible assumption | with_reducible refine bl_alloc ?_ _ | with_reducible refine bl_set ?_ ?_ _ | with_reducible refine bl_drewN ?_ _ | with_reducible refine bl_drew ?_ | with_reducible refine bl_call (by assumption) ?_)
          all_goals (first | omega | (simp; done) | (simp; omega))
        · have hi2 : (i : Int) < (L.length : Int) := by omega
          obtain ⟨c0, c1, c2⟩ := hc i hi
          replace c0 := keep_below hb0 c0
          replace c1 := keep_below hb0 c1
          replace c2 := keep_below hb0 c2
          obtain ⟨⟨g0, g1⟩, g2, g3⟩ := hg i hi
          clear hc hg
          by_cases hk : (tg L i).a * 36 + (tg L i).b = key
          · have hkb : ((tg L i).a * 36 + (tg L i).b == key) = true := by simp [hk]
            have M : Hid (kyOf L i = key) := hide hk
            clear hk
            go_wp2_with fail
            refine (key_i _ _ _ _ ⟨by omega, by omega⟩ ⟨by omega, by omega⟩).mono ?_
            rintro e w' ⟨rfl, hb⟩
            have c3 := keep_cell hb c0
            have c4 := keep_cell hb c1
            have c5 := keep_cell hb c2
            obtain ⟨k0, k1, k2, k3, k4, k5, k6, k7⟩ := Own3.call ⟨hb0, hz0, f0, f1, f2, d0, d1, d2⟩ hb
            clear hb hb0 hz0 f0 f1 f2 d0 d1 d2 c0 c1 c2 hasc
            go_wp2
            refine bodyPost_ret (v := .tuple #[tv (tg L i).a (tg L i).b (tg L i).v, .bool true]) (by simp [results, Try.results42, go_sem, k1, k2, k3, k4]) rfl ⟨?_, .inl ⟨i, hi, M.out, rfl⟩⟩
            repeat' (first | with_reducible exact bl_refl _ | with_reducible assumption | with_reducible refine bl_alloc ?_ _ | with_reducible refine bl_set ?_ ?_ _ | with_reducible refine bl_drewN ?_ _ | with_reducible refine bl_drew ?_ | with_reducible refine bl_call (by assumption) ?_)
            all_goals (first | omega | (simp; done) | (simp; omega))
          · have hkb : ((tg L i).a * 36 + (tg L i).b == key) = false := by simp [hk]
            have M := hide (Hnar.out.none_ (fun _ => hk) hasc)
            clear hk
            go_wp2_with fail
            refine (key_i _ _ _ _ ⟨by omega, by omega⟩ ⟨by omega, by omega⟩).mono ?_
            rintro e w' ⟨rfl, hb⟩
            have c3 := keep_cell hb c0
            have c4 := keep_cell hb c1
            have c5 := keep_cell hb c2
            obtain ⟨k0, k1, k2, k3, k4, k5, k6, k7⟩ := Own3.call ⟨hb0, hz0, f0, f1, f2, d0, d1, d2⟩ hb
            clear hb hb0 hz0 f0 f1 f2 d0 d1 d2 c0 c1 c2 hasc
            go_wp2
            refine bodyPost_ret (v := .tuple #[tv 0 0 0, .bool false]) (by simp [results, Try.results42, go_sem, k1, k2, k3, k4]) rfl ⟨?_, .inr ⟨M.out, rfl⟩⟩
            repeat' (first | with_reducible exact bl_refl _ | with_reducible assumption | with_reducible refine bl_alloc ?_ _ | with_reducible refine bl_set ?_ ?_ _ | with_reducible refine bl_drewN ?_ _ | with_reducible refine bl_drew ?_ | with_reducible refine bl_call (by assumption) ?_)
            all_goals (first | omega | (simp; done) | (simp; omega))
end Go.Proofs.Ytlfhfbeacleggab
