/- A binary search among ascending numbers (sort.SearchInts). -/
import Derived.Test.YtlkfpcajpdohiaaSa
import Derived.BigQuiet
namespace Go.Proofs.Ytlkfpcajpdohiaa
open Go.ChangeShapes Go.WideShapes Go.ChangeAt Go.RowKit
set_option linter.unusedVariables false

/-- All ahead of i are less than c, none from j on is. -/
def Cut (l : List Int) (c : Int) (i j : Nat) : Prop := (∀ k, k < i → ng l k < c) ∧ ∀ k, j ≤ k → k < l.length → c ≤ ng l k
theorem Cut.start (l : List Int) (c : Int) : Cut l c 0 l.length := ⟨fun k h => by omega, fun k h1 h2 => by omega⟩
theorem Cut.up {l : List Int} {c : Int} {i j m : Nat} (h : Cut l c i j) (asc : ∀ i j, i < j → j < l.length → ng l i ≤ ng l j) (hm : m < l.length) (hk : ng l m < c) : Cut l c (m + 1) j :=
  ⟨fun x hx => by
    rcases (by omega : x < m ∨ x = m) with e | e
    · have := asc x m e hm; omega
    · rw [e]; exact hk, h.2⟩
theorem Cut.down {l : List Int} {c : Int} {i j m : Nat} (h : Cut l c i j) (asc : ∀ i j, i < j → j < l.length → ng l i ≤ ng l j) (hm : m < l.length) (hk : c ≤ ng l m) : Cut l c i m :=
  ⟨h.1, fun x hx hl => by
    rcases (by omega : m < x ∨ x = m) with e | e
    · have := asc m x e hl; omega
    · rw [e]; exact hk⟩
theorem search1_i (w : World) (A : Option Addr) (c b1 b2 m : Nat) (l : List Int) (x : Int) (hl : IL w A l.length l) (hm : m < l.length) (hn : l.length ≤ 1000000) (k1 : w.cell? ⟨b1, 0, none⟩ = some (.slice A l.length c)) (k2 : w.cell? ⟨b2, 0, none⟩ = some (.int .i64 x)) :
    Calls Try.prog 94 #[.int .i64 m, .pointer (some ⟨b1, 0, none⟩), .pointer (some ⟨b2, 0, none⟩)] w fun e w' => e = .returned (.bool (decide (x ≤ ng l m))) ∧ Below w.heap.size w w' := by
  obtain ⟨b, o, rfl, hb, hc⟩ := hl.at_ hm
  have hm' : (m : Int) < (l.length : Int) := by omega
  obtain ⟨y, hy⟩ : ∃ y, y = ng l m := ⟨_, rfl⟩
  rw [← hy] at hc ⊢
  clear hl hy
  go_enter Try.func94, Try.ntmps94
  go_wp2
  go_quiet (fail)
  go_wp2
  go_ret
  exact ⟨rfl, bl_drewN (bl_refl _) _⟩
set_option maxHeartbeats 1000000 in
theorem searchN_i (w : World) (A : Option Addr) (c b1 b2 : Nat) (l : List Int) (x : Int) (hl : IL w A l.length l) (hn : l.length ≤ 1000000) (asc : ∀ i j, i < j → j < l.length → ng l i ≤ ng l j) (k1 : w.cell? ⟨b1, 0, none⟩ = some (.slice A l.length c)) (k2 : w.cell? ⟨b2, 0, none⟩ = some (.int .i64 x)) :
    Calls Try.prog 93 #[.int .i64 l.length, .func (.func 94) #[] #[.pointer (some ⟨b1, 0, none⟩), .pointer (some ⟨b2, 0, none⟩)]] w fun e w' => (∃ r : Nat, e = .returned (.int .i64 r) ∧ r ≤ l.length ∧ Cut l x r r) ∧ Below w.heap.size w w' := by
  have HC := hide (fun (u : World) (hu : Below w.heap.size w u) (m : Nat) (hm : m < l.length) => search1_i u A c b1 b2 m l x (hl.below hu) hm hn (keep_cell hu k1) (keep_cell hu k2))
  have HA := hide asc
  clear hl asc k1 k2
  go_enter Try.func93, Try.ntmps93
  go_wp2
  go_loopw [5, 6] (fun lo hi u => ∃ i j : Nat, i ≤ j ∧ j ≤ l.length ∧ lo = .int .i64 i ∧ hi = .int .i64 j ∧ Cut l x i j ∧ Below w.heap.size w u) (fun lo hi _ => (intOf hi).toNat - (intOf lo).toNat)
  case atStart => exact ⟨0, l.length, Nat.zero_le _, Nat.le_refl _, rfl, rfl, Cut.start l x, bl_refl _⟩
  case round =>
    obtain ⟨i, j, hij, hj, rfl, rfl, hcut, hbl⟩ := hrel
    have HT := hide hcut
    have HB := hide hbl
    clear hcut hbl
    by_cases hlt : i < j
    · obtain ⟨m, hm⟩ : ∃ m : Nat, m = (i + j) / 2 := ⟨_, rfl⟩
      have hm0 : i ≤ m := by omega
      have hm1 : m < j := by omega
      have hme : ((i : Int) + (j : Int)) / 2 = (m : Int) := by omega
      have hms : ((i : Int) + (j : Int)) >>> (1 : Nat) = (m : Int) := by rw [Int.shiftRight_eq_div_pow]; exact hme
      have C := HC.out wr HB.out m (by omega)
      have UP := hide (fun h => HT.out.up HA.out (m := m) (by omega) h)
      have DN := hide (fun h => HT.out.down HA.out (m := m) (by omega) h)
      obtain ⟨y, hy⟩ : ∃ y, y = ng l m := ⟨_, rfl⟩
      rw [← hy] at C UP DN
      clear hy hm
      by_cases hk : x ≤ y
      · rw [decide_eq_true hk] at C
        have HCC := hide C
        have M := hide (DN.out hk)
        clear C UP DN hk
        go_wp2_with (go_at_call 94; (with_reducible refine HCC.out.mono ?_); rintro e u1 ⟨rfl, hb⟩; have HB1 := hide (bl_call hb HB.out); clear hb)
        go_roundw
        case rel => exact ⟨i, m, hm0, by omega, rfl, rfl, M.out, HB1.out⟩
        case measure => simp [intOf]; omega
      · rw [decide_eq_false hk] at C
        have HCC := hide C
        have M := hide (UP.out (by omega))
        clear C UP DN hk
        go_wp2_with (go_at_call 94; (with_reducible refine HCC.out.mono ?_); rintro e u1 ⟨rfl, hb⟩; have HB1 := hide (bl_call hb HB.out); clear hb)
        go_roundw
        case rel => exact ⟨m + 1, j, by omega, by omega, by go_num, rfl, M.out, HB1.out⟩
        case measure => simp [intOf]; omega
    · obtain rfl : i = j := by omega
      go_wp2
      go_ret
      exact ⟨⟨i, rfl, hj, HT.out⟩, HB.out⟩
theorem SearchInts_i (w : World) (A : Option Addr) (c : Nat) (l : List Int) (x : Int) (hl : IL w A l.length l) (hn : l.length ≤ 1000000) (asc : ∀ i j, i < j → j < l.length → ng l i ≤ ng l j) :
    Calls Try.prog 56 #[.slice A l.length c, .int .i64 x] w fun e w' => (∃ r : Nat, e = .returned (.int .i64 r) ∧ r ≤ l.length ∧ Cut l x r r) ∧ Below w.heap.size w w' := by
  have HS := hide (searchN_i ((w.alloc (.cells #[.slice A l.length c] 32)).alloc (.cells #[.int .i64 x] 3)) A c w.heap.size (w.heap.size + 1) l x (hl.below (bl_alloc (bl_alloc (bl_refl _) _) _)) hn asc (by simp [go_sem]) (by simp [go_sem]))
  have HB := hide (bl_alloc (bl_alloc (bl_refl w) (.cells #[.slice A l.length c] 32)) (.cells #[.int .i64 x] 3))
  clear hl asc
  go_enter Try.func56, Try.ntmps56
  go_wp2_with fail
  (with_reducible refine HS.out.mono ?_)
  rintro e u1 ⟨⟨r, rfl, hr, hc⟩, hb⟩
  have HB1 := hide (bl_call hb HB.out)
  clear hb
  go_wp2
  go_ret
  exact ⟨⟨r, rfl, hr, hc⟩, HB1.out⟩
end Go.Proofs.Ytlkfpcajpdohiaa
