/- The laws' helpers on glue and on slices of pairs of glyphs. -/
import Derived.Test.YtbbicijmekinkacGlue
import Derived.Test.YtbbicijmekinkacInts
import Derived.Test.YtbbicijmekinkacFlat
import Derived.LoopTactic
import Derived.Deep.RegionWith
namespace Go.Proofs.Ytbbicijmekinkac
open Go.ChangeShapes Go.WideShapes Go.ChangeAt Go.RowKit
set_option linter.unusedVariables false

theorem toGlue_h (a b c : Int) (w : World) :
    Calls Try.prog 50 #[gv a b c] w fun e w' => e = .returned (gv a b c) ∧ Below w.heap.size w w' := by
  go_enter Try.func50, Try.ntmps50
  go_wp2
  refine bodyPost_ret (v := gv a b c) (by simp [results, Try.results50, go_sem, *]) rfl ⟨rfl, ?_⟩
  repeat' (first | with_reducible exact bl_refl _ | with_reducible assumption | with_reducible refine bl_alloc ?_ _ | with_reducible refine bl_set ?_ ?_ _ | with_reducible refine bl_drewN ?_ _ | with_reducible refine bl_drew ?_ | with_reducible refine bl_call (by assumption) ?_)
  all_goals (first | omega | (simp; done) | (simp; omega))
theorem eqGlue_h (a b c : Int) (w : World) :
    Calls Try.prog 56 #[gv a b c, gv a b c] w fun e w' => e = .returned (.bool true) ∧ Below w.heap.size w w' := by
  go_enter Try.func56, Try.ntmps56
  go_wp2
  go_ret
  refine ⟨rfl, ?_⟩
  repeat' (first | with_reducible exact bl_refl _ | with_reducible assumption | with_reducible refine bl_alloc ?_ _ | with_reducible refine bl_set ?_ ?_ _ | with_reducible refine bl_drewN ?_ _ | with_reducible refine bl_drew ?_ | with_reducible refine bl_call (by assumption) ?_)

/-- Three cells of an own row are stored, one behind the other. -/
theorem own_put3 {w : World} {B g n c p : Nat} {e : TypeId} {F M : List Value} {a b v : Value} (h : w.ownsRow B e 3 (.slice (some ⟨g, 0, none⟩) n c) n (vmix F M (p * 3))) (hl : M.length = F.length)
    (h0 : F[p * 3]? = some a) (h1 : F[p * 3 + 1]? = some b) (h2 : F[p * 3 + 2]? = some v) :
    (((w.setCell ⟨g, p * 3, none⟩ a).setCell ⟨g, p * 3 + 1, none⟩ b).setCell ⟨g, p * 3 + 2, none⟩ v).ownsRow B e 3 (.slice (some ⟨g, 0, none⟩) n c) n (vmix F M ((p + 1) * 3)) := by
  have s0 := (World.ownsRow.stored h (p * 3) a).1
  rw [vmix_put hl h0] at s0
  have s1 := (World.ownsRow.stored s0 (p * 3 + 1) b).1
  rw [vmix_put hl h1] at s1
  have s2 := (World.ownsRow.stored s1 (p * 3 + 2) v).1
  rw [vmix_put hl h2] at s2
  rw [show (p + 1) * 3 = p * 3 + 2 + 1 from by omega]
  exact s2
/-- A cell of an own row. -/
theorem own_cell {w : World} {B g n c size j : Nat} {e : TypeId} {xs : List Value} (h : w.ownsRow B e size (.slice (some ⟨g, 0, none⟩) n c) n xs) (hj : j < n * size) : ∃ v, w.cell? ⟨g, j, none⟩ = some v := by
  have h1 := World.ownsRow.cellAt h j hj
  rw [List.getElem?_eq_getElem (by rw [h.1]; exact hj)] at h1
  exact ⟨_, h1⟩

theorem gp_info : (Try.prog.info? 88).map (fun i => (i.zero, i.size, i.bytes)) = some (some (.agg #[.int .i64 0, .int .i64 0, .int .i64 0]), 3, 24) := by kernel_rfl
abbrev pv (x : Gp) : Value := .agg #[.int .i64 x.a, .int .i64 x.b, .int .i64 x.v]

theorem toGlyphPair_l (x : Gp) (w : World) :
    Calls Try.prog 89 #[pv x] w fun e w' => e = .returned (pv x) ∧ Below w.heap.size w w' := by
  obtain ⟨a, b, c⟩ := x
  go_enter Try.func89, Try.ntmps89
  go_wp2
  refine bodyPost_ret (v := pv ⟨a, b, c⟩) (by simp [results, Try.results89, go_sem, *]) rfl ⟨rfl, ?_⟩
  repeat' (first | with_reducible exact bl_refl _ | with_reducible assumption | with_reducible refine bl_alloc ?_ _ | with_reducible refine bl_set ?_ ?_ _ | with_reducible refine bl_drewN ?_ _ | with_reducible refine bl_drew ?_ | with_reducible refine bl_call (by assumption) ?_)
  all_goals (first | omega | (simp; done) | (simp; omega))
theorem eqGlyphPair_l (x : Gp) (w : World) :
    Calls Try.prog 91 #[pv x, pv x] w fun e w' => e = .returned (.bool true) ∧ Below w.heap.size w w' := by
  obtain ⟨a, b, c⟩ := x
  go_enter Try.func91, Try.ntmps91
  go_wp2
  go_ret
  refine ⟨rfl, ?_⟩
  repeat' (first | with_reducible exact bl_refl _ | with_reducible assumption | with_reducible refine bl_alloc ?_ _ | with_reducible refine bl_set ?_ ?_ _ | with_reducible refine bl_drewN ?_ _ | with_reducible refine bl_drew ?_ | with_reducible refine bl_call (by assumption) ?_)

theorem toGlyphPairS_l (w : World) (A : Option Addr) (n c : Nat) (L : List Gp) (ha : TL w A n L) (hn : n ≤ 1048576) :
    Calls Try.prog 51 #[.slice A n c] w fun e w' => ∃ A' c', e = .returned (.slice A' L.length c') ∧ TO w' 88 w.heap.size A' c' L ∧ Below w.heap.size w w' := by
  obtain ⟨i0, hi0, hz0, hz1, hz2⟩ := info_parts gp_info
  obtain rfl : n = L.length := ha.1
  go_enter Try.func51, Try.ntmps51
  go_wp2_with (refine wpList_make_full _ rfl _ _ _ rfl w.heap.size 88 i0 _ 3 Try.underlying31 hi0 hz0 hz1 .i64 .i64 _ _ L.length rfl rfl rfl rfl (by rw [hz2]; omega) (by unfold maxLen; omega) (Nat.le_refl _) ?_; intro w1 hown hgr)
  obtain ⟨M, hM⟩ : ∃ M, M = (madeCells (Value.agg #[.int .i64 0, .int .i64 0, .int .i64 0]).cells (L.length * 3)).toList := ⟨_, rfl⟩
  rw [← hM] at hown
  clear hM
  obtain ⟨F, hF⟩ : ∃ F, F = L.flatMap Rec.cells := ⟨_, rfl⟩
  have hFl : F.length = L.length * 3 := by rw [hF]; exact flat_len L
  have hMl : M.length = F.length := by rw [hFl, ← hown.1]
  have HF := hide (fun i (hi : i < L.length) j (hj : j < 3) => show F[i * 3 + j]? = (Rec.cells (tg L i))[j]? by rw [hF]; exact flat_get L hi hj)
  have HM := hide hMl
  have HL := hide hFl
  have HE := hide hF
  have H0 : Hid (w1.ownsRow w.heap.size 88 3 (.slice (some ⟨w.heap.size, 0, none⟩) L.length L.length) L.length (vmix F M (0 * 3))) := hide (by rw [Nat.zero_mul, vmix_zero]; exact hown)
  have hb1 := below_new hgr
  have hz0 : w.heap.size ≤ w1.heap.size := hb1.size
  have HI := hide ha
  clear hown hgr ha hF hFl hMl
  go_wp2
  go_loopw [4] (fun i u => ∃ p : Nat, p ≤ L.length ∧ i = .int .i64 p ∧ u.ownsRow w.heap.size 88 3 (.slice (some ⟨w.heap.size, 0, none⟩) L.length L.length) L.length (vmix F M (p * 3)) ∧ Below w.heap.size w u) (fun i _ => L.length - (intOf i).toNat)
  case atStart => exact ⟨0, by omega, rfl, H0.out, hb1⟩
  case round =>
    obtain ⟨p, hp, rfl, hol, hbl⟩ := hrel
    by_cases hlt : p < L.length
    · obtain ⟨b, o, rfl, hb0, c0, c1, c2⟩ := (HI.out.below hbl).at3 hlt
      have HO := hide hol
      have HB := hide hbl
      clear hol hbl
      go_wp2_with fail
      refine (toGlyphPair_l (tg L p) _).mono ?_
      rintro e u1 ⟨rfl, hb⟩
      have ho1 := own_below HO.out hb
      have HB1 := hide (bl_call hb HB.out)
      obtain ⟨_, d0⟩ := own_cell (j := p * 3) ho1 (by omega)
      obtain ⟨_, d1⟩ := own_cell (j := p * 3 + 1) ho1 (by omega)
      obtain ⟨_, d2⟩ := own_cell (j := p * 3 + 2) ho1 (by omega)
      have f0 := World.ownsRow.frozenAt ho1 (p * 3)
      have f1 := World.ownsRow.frozenAt ho1 (p * 3 + 1)
      have f2 := World.ownsRow.frozenAt ho1 (p * 3 + 2)
      have M1 := hide (own_put3 ho1 HM.out (HF.out p hlt 0 (by decide)) (HF.out p hlt 1 (by decide)) (HF.out p hlt 2 (by decide)))
      clear ho1 hb
      go_wp2
      go_roundw
      case rel => exact ⟨p + 1, by omega, by go_num, M1.out, bl_set (bl_set (bl_set HB1.out (Nat.le_refl _) _) (Nat.le_refl _) _) (Nat.le_refl _) _⟩
      case measure => simp [intOf]; omega
    · have hpe : p = L.length := by omega
      have M1 : Hid (TO wr 88 w.heap.size (some ⟨w.heap.size, 0, none⟩) L.length L) := hide (by
        rw [hpe, vmix_all HM.out HL.out, HE.out] at hol
        exact hol)
      clear hol
      go_wp2
      go_ret
      exact ⟨_, _, rfl, M1.out, hbl⟩

theorem eqGlyphPairS_l (w : World) (A A' : Option Addr) (n c c' : Nat) (L : List Gp) (ha : TL w A n L) (hb : TL w A' n L) (hn : n ≤ 1048576) :
    Calls Try.prog 57 #[.slice A n c, .slice A' n c'] w fun e w' => e = .returned (.bool true) ∧ Below w.heap.size w w' := by
  obtain rfl : n = L.length := ha.1
  have HA := hide ha
  have HB := hide hb
  clear ha hb
  go_enter Try.func57, Try.ntmps57
  go_wp2
  go_loopw [5] (fun i u => ∃ p : Nat, p ≤ L.length ∧ i = .int .i64 p ∧ Below w.heap.size w u) (fun i _ => L.length - (intOf i).toNat)
  case atStart => exact ⟨0, by omega, rfl, bl_refl _⟩
  case round =>
    obtain ⟨p, hp, rfl, hbl⟩ := hrel
    by_cases hlt : p < L.length
    · obtain ⟨b, o, rfl, hb0, c0, c1, c2⟩ := (HA.out.below hbl).at3 hlt
      obtain ⟨b', o', rfl, hb0', c0', c1', c2'⟩ := (HB.out.below hbl).at3 hlt
      have HBL := hide hbl
      clear hbl
      go_wp2_with fail
      go_region_with (go_at_call 91; (with_reducible refine (eqGlyphPair_l (tg L p) _).mono ?_); rintro e w' ⟨rfl, hbq⟩)
      all_goals
        go_wp2
        go_roundw
        case rel => exact ⟨p + 1, by omega, by go_num, bl_call hbq (bl_drew HBL.out)⟩
        case measure => simp [intOf]; omega
    · go_wp2
      go_ret
      exact ⟨rfl, hbl⟩

theorem markGlyphPairS_l (w : World) (e : TypeId) (B : Nat) (A : Option Addr) (c : Nat) (L : List Gp) (z : Int) (ha : TO w e B A c L) (hn : L.length ≤ 2000000) (z0 : 0 ≤ z) (z1 : z ≤ 1000000000) :
    Calls Try.prog 62 #[.slice A L.length c, .int .i64 z] w fun e' w' => e' = .returned (.int .i64 (z + 3 * (L.length : Int))) ∧ w.grownBy w' (Value.slice A L.length c).ownBlock := by
  rcases Nat.eq_zero_or_pos L.length with h0 | h0
  · rw [h0]
    go_enter Try.func62, Try.ntmps62
    go_wp2
    go_loop [1, 5] (fun k i => k = .int .i64 z ∧ i = .int .i64 0) (fun _ _ => 0)
    case atStart => exact ⟨rfl, rfl⟩
    case round =>
      obtain ⟨rfl, rfl⟩ := hrel
      go_wp2
      go_ret
      exact ⟨int_ret (by simp), World.grownBy.refl _ _⟩
  · obtain ⟨g, rfl, hB, hg, hfz⟩ := ha.frozen h0
    have H0 : Hid (∃ xs, w.ownsRow B e 3 (.slice (some ⟨g, 0, none⟩) L.length c) L.length xs) := hide ⟨_, ha⟩
    clear ha hfz
    go_enter Try.func62, Try.ntmps62
    go_wp2
    go_loopw [1, 5] (fun k i u => ∃ p : Nat, p ≤ L.length ∧ k = .int .i64 (z + 3 * p) ∧ i = .int .i64 p ∧ (∃ xs, u.ownsRow B e 3 (.slice (some ⟨g, 0, none⟩) L.length c) L.length xs) ∧ w.grownBy u (some g)) (fun _ i _ => L.length - (intOf i).toNat)
    case atStart => exact ⟨0, by omega, by go_num, rfl, H0.out, World.grownBy.refl _ _⟩
    case round =>
      obtain ⟨p, hp, rfl, rfl, ⟨xs, hol⟩, hgr⟩ := hrel
      by_cases hlt : p < L.length
      · obtain ⟨_, d0⟩ := own_cell (j := p * 3) hol (by omega)
        obtain ⟨_, d1⟩ := own_cell (j := p * 3 + 1) hol (by omega)
        obtain ⟨_, d2⟩ := own_cell (j := p * 3 + 2) hol (by omega)
        have f0 := World.ownsRow.frozenAt hol (p * 3)
        have f1 := World.ownsRow.frozenAt hol (p * 3 + 1)
        have f2 := World.ownsRow.frozenAt hol (p * 3 + 2)
        have M := hide (fun a b v => World.ownsRow.stored (World.ownsRow.stored (World.ownsRow.stored hol (p * 3) a).1 (p * 3 + 1) b).1 (p * 3 + 2) v)
        have HG := hide hgr
        clear hol hgr
        go_wp2
        go_roundw
        case rel => exact ⟨p + 1, by omega, by go_num, by go_num, ⟨_, (M.out _ _ _).1⟩, on_set' (on_set' (on_set' HG.out (.inl rfl) _) (.inl rfl) _) (.inl rfl) _⟩
        case measure => simp [intOf]; omega
      · go_wp2
        go_ret
        exact ⟨int_ret (by omega), hgr⟩
end Go.Proofs.Ytbbicijmekinkac
