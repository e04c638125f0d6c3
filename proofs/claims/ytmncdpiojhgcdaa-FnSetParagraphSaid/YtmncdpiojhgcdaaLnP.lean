/- The laws on lines hold for every code: lines have the boxes between their breaks, boxes are between their breaks. No condition. -/
import Derived.Test.YtmncdpiojhgcdaaSa
import Derived.Test.YtmncdpiojhgcdaaSf
import Derived.Test.YtmncdpiojhgcdaaDrawLn
import Derived.BigQuiet
import Derived.Deep.QuietTactic
namespace Go.Proofs.Ytmncdpiojhgcdaa
open Go.ChangeShapes Go.WideShapes Go.ChangeAt Go.RowKit
set_option linter.unusedVariables false

theorem small_rown {w : World} {a : Option Addr} {n c : Nat} {zs : List Int} (h : IsRow .u8 w a n c zs) : n ≤ maxLen := by
  rcases h with ⟨_, rfl, _, _⟩ | ⟨_, _, hl, hm, _⟩
  · exact Nat.zero_le _
  · omega
theorem DrawLineGlue_any (w : World) (a : Option Addr) (n c : Nat) (zs : List Int) (h : IsRow .u8 w a n c zs) :
    Calls Try.prog 53 #[.slice a n c] w fun e w' => ∃ (A : Option Addr) (c : Nat) (L : List It) (x y : Int), e = .returned (.tuple #[.slice A L.length c, .int .i64 x, .int .i64 y]) ∧ TO w' 45 w.heap.size A c L ∧ L.length ≤ 23 ∧ (-1 ≤ x ∧ x ≤ 23) ∧ (-1 ≤ y ∧ y ≤ 23) ∧ Below w.heap.size w w' := by
  go_enter Try.func53, Try.ntmps53
  go_wp2_with fail
  (with_reducible refine (newReader_any _ _ _ _ _ h).mono ?_)
  rintro e u0 ⟨rfl, hrd, hb⟩
  have hgl : w.heap.size < u0.heap.size := hrd.lt
  go_wp2_with fail
  (with_reducible refine (someLine_any _ _ _ _ hrd (by omega) (by omega)).mono ?_)
  rintro e u1 ⟨A, c1, L, x, y, rfl, hol, hll, hx, hy, hrd1, hon1⟩
  have O1 := on_call hon1 (on_below hb (on_refl w (some w.heap.size)))
  go_wp2
  go_ret3
  exact ⟨A, c1, L, x, y, rfl, hol.more (by omega), hll, hx, hy, on_new O1 (Nat.le_refl _)⟩
/-- The widths of the first boxes of a list. -/
def pS (L : List It) (R : List Int) : Nat → Int
  | 0 => 0
  | k + 1 => pS L R k + (tg L (ng R k).toNat).w
theorem pS_app {L : List It} {R : List Int} {x : Int} : ∀ {k : Nat}, k ≤ R.length → pS L (R ++ [x]) k = pS L R k
  | 0, _ => rfl
  | k + 1, h => by
    simp only [pS]
    rw [pS_app (by omega), ng_lt (by simp; omega), ng_lt (by omega), List.getElem_append_left (by omega)]
theorem pS_le {L : List It} (hall : ∀ i, i < L.length → itOk (tg L i) = true) {p : Nat} : ∀ {d : Nat}, p + d ≤ L.length → pS L (bxN L p d) (bxN L p d).length ≤ sW L (p + d) - sW L p
  | 0, _ => by simp [bxN, pS]
  | d + 1, h => by
    have ih := pS_le hall (p := p) (d := d) (by omega)
    have hi := in_bd hall (k := p + d) (by omega)
    have e : sW L (p + (d + 1)) = sW L (p + d) + inW (tg L (p + d)) := rfl
    simp only [bxN]
    by_cases hb : isB (tg L (p + d)) = true
    · rw [if_pos hb, List.length_append]
      simp only [List.length_singleton, pS]
      rw [pS_app (Nat.le_refl _), ng_lt (by simp), List.getElem_append_right (Nat.le_refl _)]
      simp only [Nat.sub_self, List.getElem_singleton, Int.toNat_natCast]
      have hk := of_decide_eq_true hb
      have : inW (tg L (p + d)) = (tg L (p + d)).w := by unfold inW; rw [if_neg (by omega)]
      omega
    · rw [if_neg hb]; omega
theorem pS_bd {L : List It} (hall : ∀ i, i < L.length → itOk (tg L i) = true) {R : List Int} (hR : ∀ j, j < R.length → ∃ m : Nat, ng R j = (m : Int) ∧ m < L.length) : ∀ {k : Nat}, k ≤ R.length → 0 ≤ pS L R k ∧ pS L R k ≤ 1000 * k
  | 0, _ => by simp [pS]
  | k + 1, h => by
    have ih := pS_bd hall hR (k := k) (by omega)
    obtain ⟨m, e, hm⟩ := hR k (by omega)
    simp only [pS]
    rw [e, Int.toNat_natCast]
    rcases iok_iff.1 (hall m hm) with x | x | x <;> omega
theorem bxN_ng {L : List It} {p d j : Nat} (h : j < (bxN L p d).length) : ∃ m : Nat, ng (bxN L p d) j = (m : Int) ∧ p ≤ m ∧ m < p + d := by
  rw [ng_lt h]
  obtain ⟨m, a, b, c, _⟩ := bxN_in (List.getElem_mem h)
  exact ⟨m, a, b, c⟩
theorem bxN_mem {L : List It} {p i : Nat} : ∀ {d : Nat}, p ≤ i → i < p + d → ((((i : Nat) : Int) ∈ bxN L p d) ↔ isB (tg L i) = true)
  | 0, h1, h2 => by omega
  | d + 1, h1, h2 => by
    constructor
    · intro h
      obtain ⟨j, a, b, c, e⟩ := bxN_in h
      obtain rfl : i = j := by omega
      exact e
    · intro h
      simp only [bxN]
      rcases (by omega : i < p + d ∨ i = p + d) with e | e
      · have := (bxN_mem (L := L) (d := d) h1 e).2 h
        split
        · exact List.mem_append_left _ this
        · exact this
      · rw [← e, if_pos h]; simp
theorem glue_neq (a b c : Int) (W : World) : (binOp .neq 43 (gv a b c) (gv a b c)).run Try.prog W = .ok (.bool false) W := by
  have : (binOp .neq 43 (gv a b c) (gv a b c)).run Try.prog W = (.ok (.bool (!(((a == a) && (b == b)) && (c == c)))) W) := by simp [go_sem]
  rw [this]; simp
theorem glue_eql (a b c : Int) (W : World) : (binOp .eql 43 (gv a b c) (gv a b c)).run Try.prog W = .ok (.bool true) W := by
  have : (binOp .eql 43 (gv a b c) (gv a b c)).run Try.prog W = (.ok (.bool ((((a == a) && (b == b)) && (c == c)))) W) := by simp [go_sem]
  rw [this]; simp
end Go.Proofs.Ytmncdpiojhgcdaa
