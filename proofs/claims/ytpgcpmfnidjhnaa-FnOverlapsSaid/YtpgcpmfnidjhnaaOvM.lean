/- The first pair of placed texts that overlap: pure maths. -/
import Derived.Test.YtpgcpmfnidjhnaaPlOk
namespace Go.Proofs.Ytpgcpmfnidjhnaa
open Go.ChangeShapes Go.WideShapes Go.ChangeAt Go.RowKit
set_option linter.unusedVariables false
open Classical

def Ov (a b : Pl) : Prop := a.y = b.y ∧ a.x < b.x + b.t.size ∧ b.x < a.x + a.t.size
noncomputable def ovb (a b : Pl) : Bool := decide (Ov a b)
theorem ovb_iff {a b : Pl} : ovb a b = true ↔ Ov a b := ⟨of_decide_eq_true, decide_eq_true⟩
theorem ovb_no {a b : Pl} (h : ¬ Ov a b) : ovb a b = false := decide_eq_false h
/-- No pair before (i, k) overlaps. -/
def NoP (L : List Pl) (i k : Nat) : Prop := ∀ i' k', i' < k' → k' < L.length → (i' < i ∨ (i' = i ∧ k' < k)) → ¬ Ov (tg L i') (tg L k')
def Fst (L : List Pl) (i k : Nat) : Prop := NoP L i k ∧ i < k ∧ k < L.length ∧ Ov (tg L i) (tg L k)
theorem NoP.zero (L : List Pl) : NoP L 0 1 := fun i' k' h1 h2 h => by omega
theorem NoP.next {L : List Pl} {i k : Nat} (h : NoP L i k) (hn : ¬ Ov (tg L i) (tg L k)) : NoP L i (k + 1) := fun i' k' h1 h2 h3 => by
  rcases (by omega : (i' < i ∨ (i' = i ∧ k' < k)) ∨ (i' = i ∧ k' = k)) with e | ⟨rfl, rfl⟩
  · exact h i' k' h1 h2 e
  · exact hn
theorem NoP.row {L : List Pl} {i k : Nat} (h : NoP L i k) (hk : L.length ≤ k) : NoP L (i + 1) (i + 1 + 1) := fun i' k' h1 h2 h3 => by
  refine h i' k' h1 h2 ?_
  omega
theorem NoP.none {L : List Pl} {i k : Nat} (h : NoP L i k) (hi : L.length ≤ i) : ∀ i' k', i' < k' → k' < L.length → ¬ Ov (tg L i') (tg L k') := fun i' k' h1 h2 => h i' k' h1 h2 (by omega)
theorem Fst.uniq {L : List Pl} {i k i' k' : Nat} (h : Fst L i k) (h' : Fst L i' k') : i = i' ∧ k = k' := by
  obtain ⟨a, b, c, d⟩ := h
  obtain ⟨a', b', c', d'⟩ := h'
  by_cases e1 : i < i'
  · exact absurd d (a' i k b c (.inl e1))
  by_cases e2 : i' < i
  · exact absurd d' (a i' k' b' c' (.inl e2))
  have e3 : i = i' := by omega
  subst e3
  by_cases e4 : k < k'
  · exact absurd d (a' i k b c (.inr ⟨rfl, e4⟩))
  by_cases e5 : k' < k
  · exact absurd d' (a i k' b' c' (.inr ⟨rfl, e5⟩))
  exact ⟨rfl, by omega⟩
noncomputable def ov (L : List Pl) (w h : Int) : Int × Int × Bool := if hx : pls L w h = true ∧ ∃ p : Nat × Nat, Fst L p.1 p.2 then (((Classical.choose hx.2).1 : Nat), ((Classical.choose hx.2).2 : Nat), true) else (-1, -1, false)
theorem ov_yes {L : List Pl} {w h : Int} {i k : Nat} (hp : pls L w h = true) (hf : Fst L i k) : ov L w h = ((i : Int), (k : Int), true) := by
  have hx : pls L w h = true ∧ ∃ p : Nat × Nat, Fst L p.1 p.2 := ⟨hp, (i, k), hf⟩
  obtain ⟨e1, e2⟩ := hf.uniq (Classical.choose_spec hx.2)
  rw [ov, dif_pos hx, ← e1, ← e2]
theorem ov_bad {L : List Pl} {w h : Int} (hp : pls L w h = false) : ov L w h = (-1, -1, false) := by
  rw [ov, dif_neg]
  rintro ⟨a, _⟩
  rw [hp] at a
  cases a
theorem ov_no {L : List Pl} {w h : Int} (hn : ∀ i' k', i' < k' → k' < L.length → ¬ Ov (tg L i') (tg L k')) : ov L w h = (-1, -1, false) := by
  rw [ov, dif_neg]
  rintro ⟨_, p, a, b, c, d⟩
  exact hn p.1 p.2 b c d
theorem ov_cases (L : List Pl) (w h : Int) : (∃ i k : Nat, pls L w h = true ∧ Fst L i k ∧ ov L w h = ((i : Int), (k : Int), true)) ∨ ov L w h = (-1, -1, false) := by
  by_cases hx : pls L w h = true ∧ ∃ p : Nat × Nat, Fst L p.1 p.2
  · obtain ⟨hp, p, hf⟩ := hx
    exact .inl ⟨p.1, p.2, hp, hf, ov_yes hp hf⟩
  · exact .inr (by rw [ov, dif_neg hx])
end Go.Proofs.Ytpgcpmfnidjhnaa
