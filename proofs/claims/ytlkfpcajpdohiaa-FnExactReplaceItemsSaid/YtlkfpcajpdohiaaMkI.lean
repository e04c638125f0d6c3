/- Marks in lists of items, and that they are held, in the laws. -/
import Derived.Test.YtlkfpcajpdohiaaSc
import Derived.Test.YtlkfpcajpdohiaaSb
namespace Go.Proofs.Ytlkfpcajpdohiaa
open Go.ChangeShapes Go.WideShapes Go.ChangeAt Go.RowKit
set_option linter.unusedVariables false

/-- An item that is marked. -/
def mkI (p : Nat) : It := ⟨1 + 6 * (p : Int), 1 + 6 * (p : Int) + 1, 1 + 6 * (p : Int) + 1 + 1, 1 + 6 * (p : Int) + 1 + 1 + 1, 1 + 6 * (p : Int) + 1 + 1 + 1 + 1, true⟩
def mkL (n : Nat) : List It := (List.range n).map mkI
theorem mkL_len (n : Nat) : (mkL n).length = n := by simp [mkL]
theorem mkL_tg {n p : Nat} (h : p < n) : tg (mkL n) p = mkI p := by
  rw [tg_lt (by rw [mkL_len]; exact h)]
  simp [mkL]
theorem mk_rem (p : Nat) : (((1 : Int) + 6 * (p : Int) + 1 + 1 + 1 + 1 + 1) % 3 == 0) = true := beq_iff_eq.2 (by omega)
set_option maxHeartbeats 2000000 in
theorem markItemS_f (w : World) (e : TypeId) (B : Nat) (A : Option Addr) (c : Nat) (L : List It) (ha : TO w e B A c L) (hn : L.length ≤ 2000000) :
    Calls Try.prog 25 #[.slice A L.length c, .int .i64 1] w fun e' w' => e' = .returned (.int .i64 (1 + 6 * (L.length : Int))) ∧ TO w' e B A c (mkL L.length) ∧ w.grownBy w' (Value.slice A L.length c).ownBlock := by
  rcases Nat.eq_zero_or_pos L.length with h0 | h0
  · have hL := List.eq_nil_of_length_eq_zero h0
    subst hL
    have H : Hid (TO w e B A c (mkL 0)) := hide ha
    show Calls _ _ #[.slice A 0 c, _] _ _
    go_enter Try.func25, Try.ntmps25
    go_wp2
    go_loop [1, 5] (fun k i => k = .int .i64 1 ∧ i = .int .i64 0) (fun _ _ => 0)
    case atStart => exact ⟨rfl, rfl⟩
    case round =>
      obtain ⟨rfl, rfl⟩ := hrel
      go_wp2
      go_ret
      exact ⟨int_ret (by simp), H.out, World.grownBy.refl _ _⟩
  · obtain ⟨g, rfl, hB, hg, hfz⟩ := ha.frozen h0
    obtain ⟨M, hM⟩ : ∃ M, M = L.flatMap Rec.cells := ⟨_, rfl⟩
    obtain ⟨F, hF⟩ : ∃ F, F = (mkL L.length).flatMap Rec.cells := ⟨_, rfl⟩
    have hFl : F.length = L.length * 6 := by rw [hF]; have := flat_len (mkL L.length); rwa [mkL_len] at this
    have hMl : M.length = F.length := by rw [hFl, hM]; exact flat_len L
    have HF := hide (fun i (hi : i < L.length) j (hj : j < 6) => show F[i * 6 + j]? = (Rec.cells (mkI i))[j]? by
      rw [hF, ← mkL_tg hi]; exact flat_get (mkL L.length) (by rw [mkL_len]; exact hi) hj)
    have HM := hide hMl
    have HL := hide hFl
    have HE := hide hF
    have H0 : Hid (w.ownsRow B e 6 (.slice (some ⟨g, 0, none⟩) L.length c) L.length (vmix F M (0 * 6))) := hide (by rw [Nat.zero_mul, vmix_zero, hM]; exact ha)
    clear ha hfz hM hF hFl hMl
    go_enter Try.func25, Try.ntmps25
    go_wp2
    go_loopw [1, 5] (fun k i u => ∃ p : Nat, p ≤ L.length ∧ k = .int .i64 (1 + 6 * p) ∧ i = .int .i64 p ∧ u.ownsRow B e 6 (.slice (some ⟨g, 0, none⟩) L.length c) L.length (vmix F M (p * 6)) ∧ w.grownBy u (some g)) (fun _ i _ => L.length - (intOf i).toNat)
    case atStart => exact ⟨0, by omega, by go_num, rfl, H0.out, World.grownBy.refl _ _⟩
    case round =>
      obtain ⟨p, hp, rfl, rfl, hol, hgr⟩ := hrel
      by_cases hlt : p < L.length
      · obtain ⟨_, d0⟩ := own_cell (j := p * 6) hol (by omega)
        obtain ⟨_, d1⟩ := own_cell (j := p * 6 + 1) hol (by omega)
        obtain ⟨_, d2⟩ := own_cell (j := p * 6 + 2) hol (by omega)
        obtain ⟨_, d3⟩ := own_cell (j := p * 6 + 3) hol (by omega)
        obtain ⟨_, d4⟩ := own_cell (j := p * 6 + 4) hol (by omega)
        obtain ⟨_, d5⟩ := own_cell (j := p * 6 + 5) hol (by omega)
        have f0 := World.ownsRow.frozenAt hol (p * 6)
        have f1 := World.ownsRow.frozenAt hol (p * 6 + 1)
        have f2 := World.ownsRow.frozenAt hol (p * 6 + 2)
        have f3 := World.ownsRow.frozenAt hol (p * 6 + 3)
        have f4 := World.ownsRow.frozenAt hol (p * 6 + 4)
        have f5 := World.ownsRow.frozenAt hol (p * 6 + 5)
        have M1 := hide (own_put6 hol HM.out (HF.out p hlt 0 (by decide)) (HF.out p hlt 1 (by decide)) (HF.out p hlt 2 (by decide)) (HF.out p hlt 3 (by decide)) (HF.out p hlt 4 (by decide)) (HF.out p hlt 5 (by decide)))
        have HG := hide hgr
        have mr := mk_rem p
        clear hol hgr
        go_wp2
        go_roundw
        case rel => exact ⟨p + 1, by omega, by go_num, by go_num, M1.out, on_set' (on_set' (on_set' (on_set' (on_set' (on_set' HG.out (.inl rfl) _) (.inl rfl) _) (.inl rfl) _) (.inl rfl) _) (.inl rfl) _) (.inl rfl) _⟩
        case measure => simp [intOf]; omega
      · have hpe : p = L.length := by omega
        have M1 : Hid (TO wr e B (some ⟨g, 0, none⟩) c (mkL L.length)) := hide (by
          rw [hpe, vmix_all HM.out HL.out, HE.out] at hol
          have h7 : wr.ownsRow B e 6 (.slice (some ⟨g, 0, none⟩) (mkL L.length).length c) (mkL L.length).length ((mkL L.length).flatMap Rec.cells) := by rw [mkL_len]; exact hol
          exact h7)
        have HG := hide hgr
        clear hol hgr
        go_wp2
        go_ret
        exact ⟨int_ret (by rw [hpe]), M1.out, HG.out⟩
set_option maxHeartbeats 2000000 in
theorem heldItemS_l (w : World) (A : Option Addr) (c n : Nat) (ha : TL w A n (mkL n)) (hn : n ≤ 2000000) :
    Calls Try.prog 26 #[.slice A n c, .int .i64 1] w fun e w' => e = .returned (.int .i64 (1 + 6 * (n : Int))) ∧ w = w' := by
  have HA := hide ha
  clear ha
  go_enter Try.func26, Try.ntmps26
  go_wp2
  go_loop [1, 5] (fun k i => ∃ p : Nat, p ≤ n ∧ k = .int .i64 (1 + 6 * p) ∧ i = .int .i64 p) (fun _ i => n - (intOf i).toNat)
  case atStart => exact ⟨0, by omega, by go_num, rfl⟩
  case round =>
    obtain ⟨p, hp, rfl, rfl⟩ := hrel
    by_cases hlt : p < n
    · obtain ⟨b, o, rfl, _, c0, c1, c2, c3, c4, c5⟩ := HA.out.at6 (i := p) hlt
      rw [mkL_tg hlt] at c0 c1 c2 c3 c4 c5
      simp only [mkI] at c0 c1 c2 c3 c4 c5
      have mr := mk_rem p
      go_wp2
      go_round
      case rel => exact ⟨p + 1, by omega, by go_num, by go_num⟩
      case measure => simp [intOf]; omega
    · go_wp2
      go_ret
      exact ⟨int_ret (by omega), rfl⟩
end Go.Proofs.Ytlkfpcajpdohiaa
