/- The law on clubs and widows holds at every input. No condition. -/
import Derived.Test.YtlfhfbeacleggaaJn
import Derived.Test.YtlfhfbeacleggaaCwS
import Derived.Test.YtlfhfbeacleggaaDrawCw
namespace Go.Proofs.Ytlfhfbeacleggaa
open Go.ChangeShapes Go.WideShapes Go.ChangeAt Go.RowKit
set_option linter.unusedVariables false
set_option maxRecDepth 4000
open Classical

/-- The numbers 1 to n. -/
def ups (n : Nat) : List Int := (List.range n).map (fun (i : Nat) => (i : Int) + 1)
theorem ups_len {n : Nat} : (ups n).length = n := by simp [ups]
theorem ups_succ {n : Nat} : ups (n + 1) = ups n ++ [(n : Int) + 1] := by simp [ups, List.range_succ]
theorem ups_has {n : Nat} {x : Int} (h1 : 1 ≤ x) (h2 : x ≤ n) : hasI (ups n) x = true := decide_eq_true ⟨(x - 1).toNat, by rw [ups_len]; omega, by
  unfold ng ups
  rw [List.getD_eq_getElem?_getD, List.getElem?_map, List.getElem?_range (by omega)]
  simp
  omega⟩
/-- How many of the first k paragraphs have several lines. -/
def lgN (l : List Int) : Nat → Nat
  | 0 => 0
  | k + 1 => lgN l k + if 1 < ng l k then 1 else 0
theorem lgN_eq {l : List Int} : ∀ {k : Nat}, (svL l k).length = lgN l k
  | 0 => rfl
  | k + 1 => by
    simp only [svL, lgN, List.length_append, lgN_eq]
    split <;> rfl
theorem lgN_le {l : List Int} : ∀ {k : Nat}, lgN l k ≤ k
  | 0 => Nat.le_refl _
  | k + 1 => by
    have := lgN_le (l := l) (k := k)
    simp only [lgN]
    split <;> omega
theorem svL_in {l : List Int} (ok : OkW l) : ∀ {k : Nat}, k ≤ l.length → ∀ x ∈ svL l k, 0 ≤ x.1 ∧ x.1 < x.2 ∧ x.2 < pfx l k
  | 0, _, x, hx => by simp [svL] at hx
  | k + 1, hk, x, hx => by
    have c : pfx l (k + 1) = pfx l k + ng l k := rfl
    have p := ok.1 k (by omega)
    simp only [svL] at hx
    rcases List.mem_append.1 hx with h | h
    · have := svL_in ok (by omega) x h
      omega
    · split at h
      · next q =>
        simp at h
        subst h
        have a := (show PosTo l k from fun j hj => ok.1 j (by omega)).ge
        dsimp only
        omega
      · simp at h
theorem cwV_all {l : List Int} (h : okW l = true) : cwV l (ups (pfx l l.length).toNat) = ((lgN l l.length : Int), (lgN l l.length : Int)) := by
  have ok := okW_iff.1 h
  have hge := ok.1.ge
  rw [cwV_yes h, cwN_all, cwN_all]
  have e1 : (svL l l.length).countP (clF (ups (pfx l l.length).toNat)) = (svL l l.length).length := List.countP_eq_length.2 fun x hx => by
    have := svL_in ok (Nat.le_refl _) x hx
    exact ups_has (by omega) (by omega)
  have e2 : (svL l l.length).countP (wiF (ups (pfx l l.length).toNat)) = (svL l l.length).length := List.countP_eq_length.2 fun x hx => by
    have := svL_in ok (Nat.le_refl _) x hx
    exact ups_has (by omega) (by omega)
  rw [e1, e2, lgN_eq]
theorem cwV_le {l E : List Int} (h : okW l = true) : (0 ≤ (cwV l E).1 ∧ (cwV l E).1 ≤ lgN l l.length) ∧ (0 ≤ (cwV l E).2 ∧ (cwV l E).2 ≤ lgN l l.length) := by
  rw [cwV_yes h, cwN_all, cwN_all, ← lgN_eq]
  have a := List.countP_le_length (p := clF E) (l := svL l l.length)
  have b := List.countP_le_length (p := wiF E) (l := svL l l.length)
  dsimp only
  omega
end Go.Proofs.Ytlfhfbeacleggaa
