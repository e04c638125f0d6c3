/- Slices of glyph pairs as lists; the functions that search them. -/
import Derived.Test.YtlfhfbeacleggabFrame
import Derived.Test.YtlfhfbeacleggabFlat
import Derived.LoopTactic
namespace Go.Proofs.Ytlfhfbeacleggab
open Go.ChangeShapes Go.WideShapes Go.ChangeAt Go.RowKit
set_option linter.unusedSimpArgs false
set_option linter.unusedVariables false

/-- The cells of all pairs. -/
theorem TL.open3 {w : World} {A : Option Addr} {n : Nat} {L : List Gp} (h : TL w A n L) (h0 : 0 < n) : ∃ b o, A = some ⟨b, o, none⟩ ∧ b < w.heap.size ∧ ∀ i, i < n → w.cell? ⟨b, o + i * 3, none⟩ = some (.int .i64 (tg L i).a) ∧ w.cell? ⟨b, o + i * 3 + 1, none⟩ = some (.int .i64 (tg L i).b) ∧ w.cell? ⟨b, o + i * 3 + 2, none⟩ = some (.int .i64 (tg L i).v) := by
  obtain ⟨b, o, e, hb, hc⟩ := h.2 h0
  exact ⟨b, o, e, hb, fun i hi => ⟨hc i hi 0 (by decide), hc i hi 1 (by decide), hc i hi 2 (by decide)⟩⟩

/-- The value of the first pair of a and b. -/
def findP (L : List Gp) (a b : Int) : Option Int := (L.find? fun t => t.a == a && t.b == b).map (·.v)
/-- No pair of a and b is among the first k. -/
def NoP (L : List Gp) (k : Nat) (a b : Int) : Prop := ∀ j, j < k → ¬ ((tg L j).a = a ∧ (tg L j).b = b)
theorem NoP.zero (L : List Gp) (a b : Int) : NoP L 0 a b := fun j hj => by omega
theorem NoP.step {L : List Gp} {k : Nat} {a b : Int} (h : NoP L k a b) (hk : ¬ ((tg L k).a = a ∧ (tg L k).b = b)) : NoP L (k + 1) a b := fun j hj => by
  rcases (by omega : j < k ∨ j = k) with e | e
  · exact h j e
  · rw [e]; exact hk
theorem findP_some {L : List Gp} {k : Nat} {a b : Int} (h : NoP L k a b) (hl : k < L.length) (h1 : (tg L k).a = a) (h2 : (tg L k).b = b) : findP L a b = some (tg L k).v := by
  induction L generalizing k with
  | nil => simp at hl
  | cons t L ih =>
    cases k with
    | zero =>
      simp [tg] at h1 h2
      simp [findP, tg, h1, h2]
    | succ k =>
      have h0 := h 0 (by omega)
      have := ih (k := k) (fun j hj => by simpa [tg] using h (j + 1) (by omega)) (by simpa using hl) (by simpa [tg] using h1) (by simpa [tg] using h2)
      have e : (t.a == a && t.b == b) = false := by
        simp [tg] at h0 ⊢
        exact h0
      simp only [findP, List.find?_cons, e] at this ⊢
      simpa [tg] using this
theorem findP_none {L : List Gp} {a b : Int} (h : NoP L L.length a b) : findP L a b = none := by
  simp only [findP, Option.map_eq_none_iff, List.find?_eq_none]
  intro t ht
  obtain ⟨j, hj, e⟩ := List.getElem_of_mem ht
  have := h j hj
  simp only [tg, List.getD, List.getElem?_eq_getElem hj, Option.getD_some, e] at this
  simpa using this

theorem findPair_s (w : World) (A : Option Addr) (n c : Nat) (L : List Gp) (a b : Int) (h : TL w A n L) (hn : n ≤ 1000000) :
    Calls Try.prog 41 #[.slice A n c, .int .i64 a, .int .i64 b] w fun e w' => e = .returned (.tuple #[.int .i64 ((findP L a b).getD 0), .bool (findP L a b).isSome]) ∧ w = w' := by
  obtain rfl : n = L.length := h.1
  rcases Nat.eq_zero_or_pos L.length with h0 | h0
  · have e0 : findP L a b = none := by
      rw [List.eq_nil_of_length_eq_zero h0]; rfl
    have E0 := hide e0
    clear e0
    rw [h0]
    go_enter Try.func41, Try.ntmps41
    go_wp2
    go_loop [8] (fun i => i = .int .i64 0) (fun _ => 0)
    case atStart => rfl
    case round =>
      subst hrel
      go_wp2
      go_ret2
      exact ⟨by rw [E0.out]; rfl, rfl⟩
  · obtain ⟨bb, o, rfl, hb, hc⟩ := h.open3 h0
    go_enter Try.func41, Try.ntmps41
    go_wp2
    go_loop [8] (fun i => ∃ k : Nat, k ≤ L.length ∧ i = .int .i64 k ∧ NoP L k a b) (fun i => L.length - (intOf i).toNat)
    case atStart => exact ⟨0, by omega, rfl, NoP.zero _ _ _⟩
    case round =>
      obtain ⟨k, hk, rfl, hno⟩ := hrel
      by_cases hlt : k < L.length
      · obtain ⟨c0, c1, c2⟩ := hc k hlt
        clear hc
        have Hno := hide hno
        clear hno
        by_cases m1 : (tg L k).a = a
        · have q1 : ((tg L k).a == a) = true := by simp [m1]
          by_cases m2 : (tg L k).b = b
          · have q2 : ((tg L k).b == b) = true := by simp [m2]
            have E := hide (findP_some Hno.out hlt m1 m2)
            clear m1 m2
            go_wp2
            go_ret2
            exact ⟨by rw [E.out]; rfl, rfl⟩
          · have q2 : ((tg L k).b == b) = false := by simp [m2]
            have M := hide (Hno.out.step (fun h => m2 h.2))
            clear m1 m2
            go_wp2
            go_round
            case rel => exact ⟨k + 1, by omega, by go_num, M.out⟩
            case measure => simp [intOf]; omega
        · have q1 : ((tg L k).a == a) = false := by simp [m1]
          have M := hide (Hno.out.step (fun h => m1 h.1))
          clear m1
          go_wp2
          go_round
          case rel => exact ⟨k + 1, by omega, by go_num, M.out⟩
          case measure => simp [intOf]; omega
      · have E := hide (findP_none (by rw [show L.length = k from by omega]; exact hno) : findP L a b = none)
        go_wp2
        go_ret2
        exact ⟨by rw [E.out]; rfl, rfl⟩
end Go.Proofs.Ytlfhfbeacleggab
