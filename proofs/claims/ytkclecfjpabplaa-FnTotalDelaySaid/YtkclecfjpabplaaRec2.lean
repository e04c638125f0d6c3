/- The laws' helpers on slices of records of two integers (figures, cells). -/
import Derived.Test.YtkclecfjpabplaaGp
import Derived.Test.YtkclecfjpabplaaSp
namespace Go.Proofs.Ytkclecfjpabplaa
open Go.ChangeShapes Go.WideShapes Go.ChangeAt Go.RowKit
set_option linter.unusedVariables false

/-- Two integers. -/
structure Du where
  a : Int
  b : Int
instance : Rec Du := ⟨2, by decide, fun x => [.int .i64 x.a, .int .i64 x.b], fun _ => rfl, ⟨0, 0⟩⟩
abbrev rv2 (x : Du) : Value := .agg #[.int .i64 x.a, .int .i64 x.b]
theorem TL.at2 {w : World} {A : Option Addr} {n : Nat} {L : List Du} (h : TL w A n L) {i : Nat} (hi : i < n) : ∃ b o, A = some ⟨b, o, none⟩ ∧ b < w.heap.size ∧ w.cell? ⟨b, o + i * 2, none⟩ = some (.int .i64 (tg L i).a) ∧ w.cell? ⟨b, o + i * 2 + 1, none⟩ = some (.int .i64 (tg L i).b) := by
  obtain ⟨b, o, e, hb, hc⟩ := h.at_ hi
  exact ⟨b, o, e, hb, hc 0 (by decide), hc 1 (by decide)⟩
theorem own_put2 {w : World} {B g n c p : Nat} {e : TypeId} {F M : List Value} {a b : Value} (h : w.ownsRow B e 2 (.slice (some ⟨g, 0, none⟩) n c) n (vmix F M (p * 2))) (hl : M.length = F.length)
    (h0 : F[p * 2]? = some a) (h1 : F[p * 2 + 1]? = some b) :
    ((w.setCell ⟨g, p * 2, none⟩ a).setCell ⟨g, p * 2 + 1, none⟩ b).ownsRow B e 2 (.slice (some ⟨g, 0, none⟩) n c) n (vmix F M ((p + 1) * 2)) := by
  have s0 := (World.ownsRow.stored h (p * 2) a).1
  rw [vmix_put hl h0] at s0
  have s1 := (World.ownsRow.stored s0 (p * 2 + 1) b).1
  rw [vmix_put hl h1] at s1
  rw [show (p + 1) * 2 = p * 2 + 1 + 1 from by omega]
  exact s1
/-- A slice of pairs of integers that came in. -/
theorem duos_in {H : Type} {enc : TypeId × Value → H} {P : Program} {w : World} {base : Nat} {sp : Nat → Bool} {held : Bool} {t e : TypeId} {a : Option Addr} {n c : Nat} {d : DataW H} {p : List MemPlace} (ht : P.underlying t = some (.slice e))
    (hk : flat P 5 e = some [.int .i64, .int .i64]) (hm : P.cellsOf e = 2) (h : DataW.Trod enc P w base sp held t (.slice a n c) d p) : ∃ L : List Du, TL w a n L ∧ n ≤ maxLen := by
  obtain ⟨h1, h2⟩ := flat_slice ht hk hm (by decide) h
  rcases Nat.eq_zero_or_pos n with h0 | h0
  · subst h0
    exact ⟨[], TL.nil _ _, h1⟩
  · obtain ⟨b, o, rfl, hb, hall⟩ := h2 h0
    have hall2 : ∀ i, i < n → ∃ x : Du, ∀ j, j < 2 → w.cell? ⟨b, o + i * 2 + j, none⟩ = (Rec.cells x)[j]? := by
      intro i hi
      obtain ⟨cs, ok, hc⟩ := hall i hi
      obtain ⟨_, _, rfl, ⟨a1, rfl, w1⟩, k1⟩ := ok.cons
      obtain ⟨_, _, rfl, ⟨a2, rfl, w2⟩, k2⟩ := k1.cons
      obtain rfl := k2.done
      exact ⟨⟨a1, a2⟩, hc⟩
    haveI : Inhabited Du := ⟨⟨0, 0⟩⟩
    obtain ⟨f, hf⟩ := Go.Deep.choose_lt hall2
    refine ⟨(List.range n).map f, ⟨by simp, fun _ => ⟨b, o, rfl, hb, fun i hi j hj => ?_⟩⟩, h1⟩
    rw [show tg ((List.range n).map f) i = f i from by simp [tg, List.getD, hi]]
    exact hf i hi j hj

end Go.Proofs.Ytkclecfjpabplaa
