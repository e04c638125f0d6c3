/- Taking an operation of a drawn region first, in a round of a range. It speaks of no program. -/
import Derived.OwnWalkIn
import Derived.OrdersIn
namespace Go.Proofs.Ytlfhfbeacleggaa
open Go
set_option linter.unusedVariables false
section
variable {F : Fence} {n : Nat} {P : Program} {md : Region.Mode} {ops : Array Oper} {Q : Exit → Act → World → Prop}

/-- No operation defers a call. -/
def noDefer (ops : Array Oper) : Bool := ops.all fun o => match o.op with | .defer _ => false | _ => true
theorem noDefer_at (h : noDefer ops = true) {j : Nat} {o : Oper} (hj : ops[j]? = some o) : ∀ c, o.op ≠ .defer c := fun c e => by
  have hm : o ∈ ops := Array.mem_of_getElem? hj
  have := Array.all_eq_true_iff_forall_mem.1 h o hm
  rw [e] at this
  cases this

/-- An operation that yields in whatever world, at its turn. -/
theorem turn_round (hnd : noDefer ops = true) {i : Nat} {o : Oper} {v : Value} {a : Act} (hi : ops[i]? = some o) (hy : YieldsFenced P ops o v a)
    {K : Act → World → Prop} {w : World} (h : K (a.put o.dst v) w) : wpOpIn F n P ops Q i K a w := by
  have hsm : ∀ ρ, o.semAt F.round ρ = execOp ρ o := fun ρ => Oper.semAt_plain F ρ o (noDefer_at hnd hi)
  unfold Go.wpOpIn
  rw [hi]
  have hab : ∀ f, o.about P w a.eval = some f → F.fn f := fun f e => by rw [hy.2 w] at e; cases e
  rcases hy.1 with ⟨hw, hv⟩ | ⟨hw, rfl⟩
  · dsimp only
    rw [if_pos hw]
    unfold Oper.wpIn
    rw [hsm, hv w, Oper.uponIn_value]
    exact ⟨hab, h⟩
  · dsimp only
    rw [if_neg (by rw [hw]; exact Bool.false_ne_true)]
    exact ⟨hab, h⟩

/-- It may wait behind another one. -/
theorem wait_one (hnd : noDefer ops = true) {j : Nat} {oi oj : Oper} {v : Value} (hj : ops[j]? = some oj) (hap : oi.apart ops oj = true)
    (hsi : ∀ cs b, oi.op ≠ .select cs b) (hsj : ∀ cs b, oj.op ≠ .select cs b)
    (hQ : ∀ c a w, Q (.panic c) (a.put oi.dst v) w → Q (.panic c) a w) {K : Act → World → Prop} {a : Act} {w : World}
    (hy : YieldsFenced P ops oi v a) (h : wpOpIn F n P ops Q j K (a.put oi.dst v) w) :
    wpOpIn F n P ops Q j (fun a' w' => YieldsFenced P ops oi v a' ∧ K (a'.put oi.dst v) w') a w := by
  have hsm : ∀ ρ, oj.semAt F.round ρ = execOp ρ oj := fun ρ => Oper.semAt_plain F ρ oj (noDefer_at hnd hj)
  obtain ⟨p1, p2, p3⟩ := Oper.apart_spec hap
  have st : ∀ (b : Act), YieldsFenced P ops oi v b → ∀ u, YieldsFenced P ops oi v (b.put oj.dst u) := fun b hb u =>
    hb.of_same (execOp_put oi hsi b oj.dst u p3) (wanted_put oi b oj.dst u p3) (fun w => about_put oi w b oj.dst u p3)
  have cm : ∀ (b : Act) (u : Value), (b.put oj.dst u).put oi.dst v = (b.put oi.dst v).put oj.dst u := fun b u => (Act.put_comm b v u p2).symm
  unfold wpOpIn at h ⊢
  rw [hj] at h ⊢
  dsimp only at h ⊢
  rw [wanted_put oj a oi.dst v p1, about_put oj w a oi.dst v p1] at h
  by_cases hw : Region.wanted oj (yielded ops a.tmps) = true
  · rw [if_pos hw] at h ⊢
    unfold Oper.wpIn at h ⊢
    rw [about_put oj w a oi.dst v p1, hsm, execOp_put oj hsj a oi.dst v p1] at h
    rw [hsm]
    refine ⟨h.1, ?_⟩
    replace h := h.2
    generalize (execOp a.eval oj).run P w = r at h ⊢
    match r, h with
    | .ok (.value u) w', h => rw [Oper.uponIn_value] at h ⊢; exact ⟨st a hy u, by rw [cm]; exact h⟩
    | .ok .skip w', h => rw [Oper.uponIn_skip] at h ⊢; exact ⟨st a hy _, by rw [cm]; exact h⟩
    | .ok (.defer d) w', h =>
      rw [Oper.uponIn_defer] at h ⊢
      refine ⟨st { a with defers := d :: a.defers } (hy.of_same rfl rfl (fun _ => rfl)) undef, ?_⟩
      rw [cm, ← Act.put_defers]
      exact h
    | .ok (.enter f args) w', h =>
      rw [Oper.uponIn_enter] at h ⊢
      refine ⟨h.1, CallsIn.mono h.2 fun e w'' he => ?_⟩
      match e, he with
      | .returned u, he => exact ⟨st a hy u, by rw [cm]; exact he⟩
      | .panicked c, he => exact hQ _ _ _ he
      | .outgrown, he => exact he
    | .ok (.row row args) w', h =>
      rw [Oper.uponIn_row] at h ⊢
      exact ⟨h.1, RowsIn.mono h.2 fun u w'' he => ⟨st a hy u, by rw [cm]; exact he⟩⟩
    | .ok (.round l f tmps assign body) w', h =>
      rw [Oper.uponIn_round] at h ⊢
      refine ⟨h.1, RoundIn.mono h.2 fun e w'' he => ?_⟩
      match e, he with
      | .returned u, he => exact ⟨st a hy u, by rw [cm]; exact he⟩
      | .panicked c, he => exact hQ _ _ _ he
      | .outgrown, he => exact he
    | .halt x w', h =>
      cases x <;> simp only [Oper.uponIn] at h ⊢
      case panic u => exact hQ _ _ _ h
  · rw [if_neg hw] at h ⊢
    exact ⟨h.1, st a hy _, by rw [cm]; exact h.2⟩

theorem first_round (hnd : noDefer ops = true) {i : Nat} {oi : Oper} {v : Value} (hi : ops[i]? = some oi) (hsel : ∀ (j : Nat) (o : Oper) cs b, ops[j]? = some o → o.op ≠ .select cs b)
    (hQ : ∀ c a w, Q (.panic c) (a.put oi.dst v) w → Q (.panic c) a w) :
    ∀ (fuel : Nat) (listed : Array Bool) (a : Act) (w : World),
      (∀ j oj, ops[j]? = some oj → j ≠ i → listed.getD j true = false → (∀ e ∈ oj.after, Region.binds md e = true → e.on ≠ i) → oi.apart ops oj = true) →
      i ∈ Region.ready md ops listed → YieldsFenced P ops oi v a →
      wpAnyIn F n P md ops Q fuel (listed.setIfInBounds i true) (a.put oi.dst v) w → wpAnyIn F n P md ops Q (fuel + 1) listed a w
  | fuel, listed, a, w, hfree, hr, hy, H => by
    refine ⟨fun h0 => absurd (h0 ▸ hr) (by simp), fun j hj => ?_⟩
    by_cases e : j = i
    · subst e
      exact turn_round hnd hi hy H
    match fuel, H with
    | 0, H =>
      have h1 := ready_mono hj e
      rw [H.1] at h1
      cases h1
    | fuel + 1, H =>
      have h1 := H.2 j (ready_mono hj e)
      obtain ⟨hun, oj, hoj, hall⟩ := mem_ready.1 hj
      have hno : ∀ x ∈ oj.after, Region.binds md x = true → x.on ≠ i := fun x hx hb q => by
        have a1 := hall x hx hb
        have a0 := (mem_ready.1 hr).1
        rw [q] at a1
        rw [Array.getD_eq_getD_getElem?] at a0 a1
        cases hl : listed[i]? with
        | none => rw [hl] at a0; simp at a0
        | some z => rw [hl] at a0 a1; simp at a0 a1; rw [a0] at a1; cases a1
      have h2 := wait_one hnd hoj (hfree j oj hoj e hun hno) (fun cs b => hsel i oi cs b hi) (fun cs b => hsel j oj cs b hoj) hQ hy h1
      refine wpOpIn_mono (fun a' w' h3 => first_round hnd hi hsel hQ fuel (listed.setIfInBounds j true) a' w' (fun k ok hk hki hku hkn => ?_) (ready_mono hr (Ne.symm e)) h3.1 ?_) h2
      · refine hfree k ok hk hki ?_ hkn
        by_cases q : j = k
        · subst q; exact hun
        · rw [getD_set_ne true q] at hku; exact hku
      · rw [Array.setIfInBounds_comm _ _ e]
        exact h3.2

/-- An operation of a drawn region that yields in whatever world is taken first, in a round as well. -/
theorem take_round {i : Nat} {oi : Oper} {v : Value} {fuel : Nat} {listed : Array Bool} {a : Act} {w : World} (hnd : noDefer ops = true) (hi : ops[i]? = some oi)
    (hs : Region.noSelect ops = true) (hf : Region.free md ops listed i = true) (hr : (Region.ready md ops listed).contains i = true)
    (hQ : ∀ c a w, Q (.panic c) (a.put oi.dst v) w → Q (.panic c) a w) (hy : YieldsFenced P ops oi v a)
    (h : wpAnyIn F n P md ops Q fuel (listed.setIfInBounds i true) (a.put oi.dst v) w) : wpAnyIn F n P md ops Q (fuel + 1) listed a w :=
  first_round hnd hi (Region.noSelect_spec hs) hQ fuel listed a w (Region.free_spec hi hf) (by simpa using hr) hy h
end
end Go.Proofs.Ytlfhfbeacleggaa
