/- pairValue answers the value of the first pair of a and b in a list of valid pairs. -/
import Derived.Test.YtlfhfbeacleggabSearch
namespace Go.Proofs.Ytlfhfbeacleggab
open Go.ChangeShapes Go.WideShapes Go.ChangeAt Go.RowKit
set_option linter.unusedSimpArgs false
set_option linter.unusedVariables false

/-- All pairs are pairs of glyphs, and their keys ascend. -/
def PairsOk (L : List Gp) : Prop := (∀ i, i < L.length → (0 ≤ (tg L i).a ∧ (tg L i).a ≤ 35) ∧ (0 ≤ (tg L i).b ∧ (tg L i).b ≤ 35)) ∧ ∀ i j, i < j → j < L.length → kyOf L i < kyOf L j

theorem ky_eq {L : List Gp} (h : PairsOk L) {m : Nat} (hm : m < L.length) {a b : Int} (ha : 0 ≤ a ∧ a ≤ 35) (hb : 0 ≤ b ∧ b ≤ 35) : kyOf L m = a * 36 + b ↔ (tg L m).a = a ∧ (tg L m).b = b := by
  obtain ⟨h1, h2⟩ := h.1 m hm
  unfold kyOf
  omega
theorem findP_of_key {L : List Gp} (h : PairsOk L) {m : Nat} (hm : m < L.length) {a b : Int} (ha : 0 ≤ a ∧ a ≤ 35) (hb : 0 ≤ b ∧ b ≤ 35) (hk : kyOf L m = a * 36 + b) : findP L a b = some (tg L m).v := by
  obtain ⟨e1, e2⟩ := (ky_eq h hm ha hb).1 hk
  refine findP_some (fun j hj hc => ?_) hm e1 e2
  have h1 := h.2 j m hj hm
  have h2 := (ky_eq h (by omega : j < L.length) ha hb).2 hc
  omega
theorem findP_no_key {L : List Gp} (h : PairsOk L) {a b : Int} (ha : 0 ≤ a ∧ a ≤ 35) (hb : 0 ≤ b ∧ b ≤ 35) (hk : ∀ m, m < L.length → kyOf L m ≠ a * 36 + b) : findP L a b = none :=
  findP_none fun j hj hc => hk j hj ((ky_eq h hj ha hb).2 hc)

theorem pairValue_i (w : World) (A : Option Addr) (n c : Nat) (L : List Gp) (a b : Int) (h : TL w A n L) (hn : n ≤ 1000) (hL : PairsOk L) (ha : 0 ≤ a ∧ a ≤ 35) (hb : 0 ≤ b ∧ b ≤ 35) :
    Calls Try.prog 29 #[.slice A n c, .int .i64 a, .int .i64 b] w fun e w' => e = .returned (.tuple #[.int .i64 ((findP L a b).getD 0), .bool (findP L a b).isSome]) ∧ Below w.heap.size w w' := by
  obtain rfl : n = L.length := h.1
  have H := hide h
  have HL := hide hL
  clear h hL
  go_enter Try.func29, Try.ntmps29
  go_wp2_with fail
  refine (key_i a b 0 _ ⟨by omega, by omega⟩ ⟨by omega, by omega⟩).mono ?_
  rintro e w' ⟨rfl, hbl⟩
  go_wp2_with fail
  refine (searchKey_i _ _ _ _ L _ (H.out.below (bl_call hbl (by repeat' (first | with_reducible exact bl_refl _ | with_reducible assumption | with_reducible refine bl_alloc ?_ _ | with_reducible refine bl_set ?_ ?_ _ | with_reducible refine bl_drewN ?_ _ | with_reducible refine bl_drew ?_ | with_reducible refine bl_call (by assumption) ?_)))) hn HL.out.1 HL.out.2).mono ?_
  rintro e u ⟨hb2, ⟨m, hm, hk, rfl⟩ | ⟨hk, rfl⟩⟩
  · have E := hide (findP_of_key HL.out hm ha hb hk)
    clear hk
    go_wp2
    go_ret2
    refine ⟨by rw [E.out]; rfl, ?_⟩
    repeat' (first | with_reducible exact bl_refl _ | with_reducible assumption | with_reducible refine bl_alloc ?_ _ | with_reducible refine bl_set ?_ ?_ _ | with_reducible refine bl_drewN ?_ _ | with_reducible refine bl_drew ?_ | with_reducible refine bl_call (by assumption) ?_)
  · have E := hide (findP_no_key HL.out ha hb hk)
    clear hk
    go_wp2
    go_ret2
    refine ⟨by rw [E.out]; rfl, ?_⟩
    repeat' (first | with_reducible exact bl_refl _ | with_reducible assumption | with_reducible refine bl_alloc ?_ _ | with_reducible refine bl_set ?_ ?_ _ | with_reducible refine bl_drewN ?_ _ | with_reducible refine bl_drew ?_ | with_reducible refine bl_call (by assumption) ?_)
end Go.Proofs.Ytlfhfbeacleggab
