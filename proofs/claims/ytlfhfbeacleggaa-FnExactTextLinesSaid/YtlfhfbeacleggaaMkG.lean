/- The laws' helpers on lines that a function returns: equal lines, marks, and that they are held. -/
import Derived.Test.YtlfhfbeacleggaaGp
import Derived.Test.YtlfhfbeacleggaaRecA
namespace Go.Proofs.Ytlfhfbeacleggaa
open Go.ChangeShapes Go.WideShapes Go.ChangeAt Go.RowKit
set_option linter.unusedVariables false

/-- A line that is marked. -/
def mkG (p : Nat) : Gp := ⟨1 + 3 * (p : Int), 1 + 3 * (p : Int) + 1, 1 + 3 * (p : Int) + 1 + 1⟩
def mkGs (n : Nat) : List Gp := (List.range n).map mkG
theorem mkGs_len (n : Nat) : (mkGs n).length = n := by simp [mkGs]
theorem mkGs_tg {n p : Nat} (h : p < n) : tg (mkGs n) p = mkG p := by
  rw [tg_lt (by rw [mkGs_len]; exact h)]
  simp [mkGs]
abbrev rvG (x : Gp) : Value := .agg #[.int .i64 x.a, .int .i64 x.b, .int .i64 x.v]
theorem eqLine_g (x : Gp) (w : World) :
    Calls Try.prog 92 #[rvG x, rvG x] w fun e w' => e = .returned (.bool true) ∧ Below w.heap.size w w' := by
  obtain ⟨a, b, c⟩ := x
  go_enter Try.func92, Try.ntmps92
  go_wp2
  go_ret
  refine ⟨rfl, ?_⟩
  repeat' (first | with_reducible exact bl_refl _ | with_reducible assumption | with_reducible refine bl_alloc ?_ _ | with_reducible refine bl_set ?_ ?_ _ | with_reducible refine bl_drewN ?_ _ | with_reducible refine bl_drew ?_ | with_reducible refine bl_call (by assumption) ?_)
theorem eqLineS_g (w : World) (A A' : Option Addr) (n c c' : Nat) (L : List Gp) (ha : TL w A n L) (hb : TL w A' n L) (hn : n ≤ 1048576) :
    Calls Try.prog 34 #[.slice A n c, .slice A' n c'] w fun e w' => e = .returned (.bool true) ∧ Below w.heap.size w w' := by
  obtain rfl : n = L.length := ha.1
  have HA := hide ha
  have HB := hide hb
  clear ha hb
  go_enter Try.func34, Try.ntmps34
  go_wp2
  go_loopw [5] (fun i u => ∃ p : Nat, p ≤ L.length ∧ i = .int .i64 p ∧ Below w.heap.size w u) (fun i _ => L.length - (intOf i).toNat)
  case atStart => exact ⟨0, by omega, rfl, bl_refl _⟩
  case round =>
    obtain ⟨p, hp, rfl, hbl⟩ := hrel
    by_cases hlt : p < L.length
    · obtain ⟨b, o, rfl, hb0, c0, c1, c2⟩ := (HA.out.below hbl).at3 hlt
      obtain ⟨b', o', rfl, hb0', c0', c1', c2'⟩ := (HB.out.below hbl).at3 hlt
      have HBL := hide hbl
      clear hbl
      go_wp2_with fail
      go_region_with (go_at_call 92; (with_reducible refine (eqLine_g (tg L p) _).mono ?_); rintro e w' ⟨rfl, hbq⟩)
      all_goals
        go_wp2
        go_roundw
        case rel => exact ⟨p + 1, by omega, by go_num, bl_call hbq (bl_drew HBL.out)⟩
        case measure => simp [intOf]; omega
    · go_wp2
      go_ret
      exact ⟨rfl, hbl⟩
set_option maxHeartbeats 2000000 in
theorem markLineS_g (w : World) (e : TypeId) (B : Nat) (A : Option Addr) (c : Nat) (L : List Gp) (ha : TO w e B A c L) (hn : L.length ≤ 2000000) :
    Calls Try.prog 37 #[.slice A L.length c, .int .i64 1] w fun e' w' => e' = .returned (.int .i64 (1 + 3 * (L.length : Int))) ∧ TO w' e B A c (mkGs L.length) ∧ w.grownBy w' (Value.slice A L.length c).ownBlock := by
  rcases Nat.eq_zero_or_pos L.length with h0 | h0
  · have hL := List.eq_nil_of_length_eq_zero h0
    subst hL
    have H : Hid (TO w e B A c (mkGs 0)) := hide ha
    show Calls _ _ #[.slice A 0 c, _] _ _
    go_enter Try.func37, Try.ntmps37
    go_wp2
    go_loop [1, 5] (fun k i => k = .int .i64 1 ∧ i = .int .i64 0) (fun _ _ => 0)
    case atStart => exact ⟨rfl, rfl⟩
    case round =>
      obtain ⟨rfl, rfl⟩ := hrel
      go_wp2
      go_ret
      exact ⟨int_ret (by simp), H.out, World.grownBy.refl _ _⟩
  · obtain ⟨g, rfl, hB, hg, hfz⟩ := ha.frozen h0
    obtain ⟨M, hM⟩ : ∃ M, M = L.flatMap Rec.cells := ⟨_, rfl⟩
    obtain ⟨F, hF⟩ : ∃ F, F = (mkGs L.length).flatMap Rec.cells := ⟨_, rfl⟩
    have hFl : F.length = L.length * 3 := by rw [hF]; have := flat_len (mkGs L.length); rwa [mkGs_len] at this
    have hMl : M.length = F.length := by rw [hFl, hM]; exact flat_len L
    have HF := hide (fun i (hi : i < L.length) j (hj : j < 3) => show F[i * 3 + j]? = (Rec.cells (mkG i))[j]? by
      rw [hF, ← mkGs_tg hi]; exact flat_get (mkGs L.length) (by rw [mkGs_len]; exact hi) hj)
    have HM := hide hMl
    have HL := hide hFl
    have HE := hide hF
    have H0 : Hid (w.ownsRow B e 3 (.slice (some ⟨g, 0, none⟩) L.length c) L.length (vmix F M (0 * 3))) := hide (by rw [Nat.zero_mul, vmix_zero, hM]; exact ha)
    clear ha hfz hM hF hFl hMl
    go_enter Try.func37, Try.ntmps37
    go_wp2
    go_loopw [1, 5] (fun k i u => ∃ p : Nat, p ≤ L.length ∧ k = .int .i64 (1 + 3 * p) ∧ i = .int .i64 p ∧ u.ownsRow B e 3 (.slice (some ⟨g, 0, none⟩) L.length c) L.length (vmix F M (p * 3)) ∧ w.grownBy u (some g)) (fun _ i _ => L.length - (intOf i).toNat)
    case atStart => exact ⟨0, by omega, by go_num, rfl, H0.out, World.grownBy.refl _ _⟩
    case round =>
      obtain ⟨p, hp, rfl, rfl, hol, hgr⟩ := hrel
      by_cases hlt : p < L.length
      · obtain ⟨_, d0⟩ := own_cell (j := p * 3) hol (by omega)
        obtain ⟨_, d1⟩ := own_cell (j := p * 3 + 1) hol (by omega)
        obtain ⟨_, d2⟩ := own_cell (j := p * 3 + 2) hol (by omega)
        have f0 := World.ownsRow.frozenAt hol (p * 3)
        have f1 := World.ownsRow.frozenAt hol (p * 3 + 1)
        have f2 := World.ownsRow.frozenAt hol (p * 3 + 2)
        have M1 := hide (own_put3 hol HM.out (HF.out p hlt 0 (by decide)) (HF.out p hlt 1 (by decide)) (HF.out p hlt 2 (by decide)))
        have HG := hide hgr
        clear hol hgr
        go_wp2
        go_roundw
        case rel => exact ⟨p + 1, by omega, by go_num, by go_num, M1.out, on_set' (on_set' (on_set' HG.out (.inl rfl) _) (.inl rfl) _) (.inl rfl) _⟩
        case measure => simp [intOf]; omega
      · have hpe : p = L.length := by omega
        have M1 : Hid (TO wr e B (some ⟨g, 0, none⟩) c (mkGs L.length)) := hide (by
          rw [hpe, vmix_all HM.out HL.out, HE.out] at hol
          have h7 : wr.ownsRow B e 3 (.slice (some ⟨g, 0, none⟩) (mkGs L.length).length c) (mkGs L.length).length ((mkGs L.length).flatMap Rec.cells) := by rw [mkGs_len]; exact hol
          exact h7)
        have HG := hide hgr
        clear hol hgr
        go_wp2
        go_ret
        exact ⟨int_ret (by rw [hpe]), M1.out, HG.out⟩
set_option maxHeartbeats 2000000 in
theorem heldLineS_g (w : World) (A : Option Addr) (c n : Nat) (ha : TL w A n (mkGs n)) (hn : n ≤ 2000000) :
    Calls Try.prog 38 #[.slice A n c, .int .i64 1] w fun e w' => e = .returned (.int .i64 (1 + 3 * (n : Int))) ∧ w = w' := by
  have HA := hide ha
  clear ha
  go_enter Try.func38, Try.ntmps38
  go_wp2
  go_loop [1, 5] (fun k i => ∃ p : Nat, p ≤ n ∧ k = .int .i64 (1 + 3 * p) ∧ i = .int .i64 p) (fun _ i => n - (intOf i).toNat)
  case atStart => exact ⟨0, by omega, by go_num, rfl⟩
  case round =>
    obtain ⟨p, hp, rfl, rfl⟩ := hrel
    by_cases hlt : p < n
    · obtain ⟨b, o, rfl, _, c0, c1, c2⟩ := HA.out.at3 (i := p) hlt
      rw [mkGs_tg hlt] at c0 c1 c2
      simp only [mkG] at c0 c1 c2
      go_wp2
      go_round
      case rel => exact ⟨p + 1, by omega, by go_num, by go_num⟩
      case measure => simp [intOf]; omega
    · go_wp2
      go_ret
      exact ⟨int_ret (by omega), rfl⟩
end Go.Proofs.Ytlfhfbeacleggaa
