/- The laws' helpers on slices of items. -/
import Derived.Test.YtafddofajfcffaaGp
import Derived.Test.YtafddofajfcffaaSp
namespace Go.Proofs.Ytafddofajfcffaa
open Go.ChangeShapes Go.WideShapes Go.ChangeAt Go.RowKit
set_option linter.unusedVariables false

theorem it_info : (Try.prog.info? 76).map (fun i => (i.zero, i.size, i.bytes)) = some (some (.agg #[.int .i64 0, .int .i64 0, .int .i64 0, .int .i64 0, .int .i64 0, .bool false]), 6, 48) := by kernel_rfl

/-- Six cells of an own row are stored, one behind the other. -/
theorem own_put6 {w : World} {B g n c p : Nat} {e : TypeId} {F M : List Value} {a b d x y v : Value} (h : w.ownsRow B e 6 (.slice (some ⟨g, 0, none⟩) n c) n (vmix F M (p * 6))) (hl : M.length = F.length)
    (h0 : F[p * 6]? = some a) (h1 : F[p * 6 + 1]? = some b) (h2 : F[p * 6 + 2]? = some d) (h3 : F[p * 6 + 3]? = some x) (h4 : F[p * 6 + 4]? = some y) (h5 : F[p * 6 + 5]? = some v) :
    ((((((w.setCell ⟨g, p * 6, none⟩ a).setCell ⟨g, p * 6 + 1, none⟩ b).setCell ⟨g, p * 6 + 2, none⟩ d).setCell ⟨g, p * 6 + 3, none⟩ x).setCell ⟨g, p * 6 + 4, none⟩ y).setCell ⟨g, p * 6 + 5, none⟩ v).ownsRow B e 6 (.slice (some ⟨g, 0, none⟩) n c) n (vmix F M ((p + 1) * 6)) := by
  have s0 := (World.ownsRow.stored h (p * 6) a).1
  rw [vmix_put hl h0] at s0
  have s1 := (World.ownsRow.stored s0 (p * 6 + 1) b).1
  rw [vmix_put hl h1] at s1
  have s2 := (World.ownsRow.stored s1 (p * 6 + 2) d).1
  rw [vmix_put hl h2] at s2
  have s3 := (World.ownsRow.stored s2 (p * 6 + 3) x).1
  rw [vmix_put hl h3] at s3
  have s4 := (World.ownsRow.stored s3 (p * 6 + 4) y).1
  rw [vmix_put hl h4] at s4
  have s5 := (World.ownsRow.stored s4 (p * 6 + 5) v).1
  rw [vmix_put hl h5] at s5
  rw [show (p + 1) * 6 = p * 6 + 5 + 1 from by omega]
  exact s5

theorem szItemS_l (w : World) (A : Option Addr) (n c : Nat) (z : Int) (hn : n ≤ 9223372036854775807) (z0 : 0 ≤ z) (z1 : z ≤ 1048576) :
    Calls Try.prog 23 #[.slice A n c, .int .i64 z] w fun e w' => e = .returned (.int .i64 (if z - n < 0 then -1 else z - n)) ∧ w = w' := by
  rcases (by omega : z - (n : Int) < 0 ∨ 0 ≤ z - (n : Int)) with h | h
  · rw [if_pos h]
    go_enter Try.func23, Try.ntmps23
    go_wp2
    go_ret
    exact ⟨rfl, rfl⟩
  · rw [if_neg (by omega)]
    go_enter Try.func23, Try.ntmps23
    go_wp2
    go_ret
    exact ⟨rfl, rfl⟩

theorem toItem_l (x : It) (w : World) :
    Calls Try.prog 71 #[itv x] w fun e w' => e = .returned (itv x) ∧ Below w.heap.size w w' := by
  obtain ⟨a, b, c, d, e, f⟩ := x
  go_enter Try.func71, Try.ntmps71
  go_wp2_with (go_at_call 116; refine (toGlue_h _ _ _ _).mono ?_; rintro e w' ⟨rfl, hb⟩; (try (with_reducible have hb := bl_undrew hb)); obtain ⟨hc, hf⟩ := bcell hb; (try ((with_reducible have hq := bcell1 hb); obtain ⟨hc, hf⟩ := hq)); (try ((with_reducible have hq := bcell2 hb); obtain ⟨hc, hf⟩ := hq)); have hz := bl_sz hb; (try simp at hz); (try (have z0 : w.heap.size < w'.heap.size := (by omega); have y0 := Nat.le_of_lt z0)); (try (have z1 : w.heap.size + 1 < w'.heap.size := (by omega); have y1 := Nat.le_of_lt z1)); (try (have z2 : w.heap.size + 1 + 1 < w'.heap.size := (by omega); have y2 := Nat.le_of_lt z2)); (try (have z3 : w.heap.size + 1 + 1 + 1 < w'.heap.size := (by omega); have y3 := Nat.le_of_lt z3)); (try (have z4 : u1.heap.size < w'.heap.size := (by omega); have y4 := Nat.le_of_lt z4)); (try (have z5 : u1.heap.size + 1 < w'.heap.size := (by omega); have y5 := Nat.le_of_lt z5)); (try (have z6 : u2.heap.size < w'.heap.size := (by omega); have y6 := Nat.le_of_lt z6)); (try (have z7 : u2.heap.size + 1 < w'.heap.size := (by omega); have y7 := Nat.le_of_lt z7)); (try (have z8 : u3.heap.size < w'.heap.size := (by omega); have y8 := Nat.le_of_lt z8)); (try (have z9 : u3.heap.size + 1 < w'.heap.size := (by omega); have y9 := Nat.le_of_lt z9)); (try (have z10 : u4.heap.size < w'.heap.size := (by omega); have y10 := Nat.le_of_lt z10)); (try (have z11 : u4.heap.size + 1 < w'.heap.size := (by omega); have y11 := Nat.le_of_lt z11)); (try (have z12 : u5.heap.size < w'.heap.size := (by omega); have y12 := Nat.le_of_lt z12)); (try (have z13 : u5.heap.size + 1 < w'.heap.size := (by omega); have y13 := Nat.le_of_lt z13)); (try (have z14 : u6.heap.size < w'.heap.size := (by omega); have y14 := Nat.le_of_lt z14)); (try (have z15 : u6.heap.size + 1 < w'.heap.size := (by omega); have y15 := Nat.le_of_lt z15)); (try (have zg : g < w'.heap.size := (by omega); have yg := Nat.le_of_lt zg)); (try (have zc : wc.heap.size < w'.heap.size := (by omega); have yc := Nat.le_of_lt zc)); (try (have zd : wc.heap.size + 1 < w'.heap.size := (by omega); have yd := Nat.le_of_lt zd)); (first | (have _k := u7; clear _k; rename World => u8) | (have _k := u6; clear _k; rename World => u7) | (have _k := u5; clear _k; rename World => u6) | (have _k := u4; clear _k; rename World => u5) | (have _k := u3; clear _k; rename World => u4) | (have _k := u2; clear _k; rename World => u3) | (have _k := u1; clear _k; rename World => u2) | (rename World => u1)))
  refine bodyPost_ret (v := itv ⟨a, b, c, d, e, f⟩) (by simp [results, Try.results71, go_sem, *]) rfl ⟨rfl, ?_⟩
  repeat' (first | with_reducible exact bl_refl _ | with_reducible assumption | with_reducible refine bl_alloc ?_ _ | with_reducible refine bl_set ?_ ?_ _ | with_reducible refine bl_drewN ?_ _ | with_reducible refine bl_drew ?_ | with_reducible refine bl_call (by assumption) ?_)
  all_goals (first | omega | (simp; done) | (simp; omega))
theorem eqItem_l (x : It) (w : World) :
    Calls Try.prog 76 #[itv x, itv x] w fun e w' => e = .returned (.bool true) ∧ Below w.heap.size w w' := by
  obtain ⟨a, b, c, d, e, f⟩ := x
  go_enter Try.func76, Try.ntmps76
  go_wp2_with (go_at_call 124; refine (eqGlue_h _ _ _ _).mono ?_; rintro e w' ⟨rfl, hb⟩; (try (with_reducible have hb := bl_undrew hb)); obtain ⟨hc, hf⟩ := bcell hb; (try ((with_reducible have hq := bcell1 hb); obtain ⟨hc, hf⟩ := hq)); (try ((with_reducible have hq := bcell2 hb); obtain ⟨hc, hf⟩ := hq)); have hz := bl_sz hb; (try simp at hz); (try (have z0 : w.heap.size < w'.heap.size := (by omega); have y0 := Nat.le_of_lt z0)); (try (have z1 : w.heap.size + 1 < w'.heap.size := (by omega); have y1 := Nat.le_of_lt z1)); (try (have z2 : w.heap.size + 1 + 1 < w'.heap.size := (by omega); have y2 := Nat.le_of_lt z2)); (try (have z3 : w.heap.size + 1 + 1 + 1 < w'.heap.size := (by omega); have y3 := Nat.le_of_lt z3)); (try (have z4 : u1.heap.size < w'.heap.size := (by omega); have y4 := Nat.le_of_lt z4)); (try (have z5 : u1.heap.size + 1 < w'.heap.size := (by omega); have y5 := Nat.le_of_lt z5)); (try (have z6 : u2.heap.size < w'.heap.size := (by omega); have y6 := Nat.le_of_lt z6)); (try (have z7 : u2.heap.size + 1 < w'.heap.size := (by omega); have y7 := Nat.le_of_lt z7)); (try (have z8 : u3.heap.size < w'.heap.size := (by omega); have y8 := Nat.le_of_lt z8)); (try (have z9 : u3.heap.size + 1 < w'.heap.size := (by omega); have y9 := Nat.le_of_lt z9)); (try (have z10 : u4.heap.size < w'.heap.size := (by omega); have y10 := Nat.le_of_lt z10)); (try (have z11 : u4.heap.size + 1 < w'.heap.size := (by omega); have y11 := Nat.le_of_lt z11)); (try (have z12 : u5.heap.size < w'.heap.size := (by omega); have y12 := Nat.le_of_lt z12)); (try (have z13 : u5.heap.size + 1 < w'.heap.size := (by omega); have y13 := Nat.le_of_lt z13)); (try (have z14 : u6.heap.size < w'.heap.size := (by omega); have y14 := Nat.le_of_lt z14)); (try (have z15 : u6.heap.size + 1 < w'.heap.size := (by omega); have y15 := Nat.le_of_lt z15)); (try (have zg : g < w'.heap.size := (by omega); have yg := Nat.le_of_lt zg)); (try (have zc : wc.heap.size < w'.heap.size := (by omega); have yc := Nat.le_of_lt zc)); (try (have zd : wc.heap.size + 1 < w'.heap.size := (by omega); have yd := Nat.le_of_lt zd)); (first | (have _k := u7; clear _k; rename World => u8) | (have _k := u6; clear _k; rename World => u7) | (have _k := u5; clear _k; rename World => u6) | (have _k := u4; clear _k; rename World => u5) | (have _k := u3; clear _k; rename World => u4) | (have _k := u2; clear _k; rename World => u3) | (have _k := u1; clear _k; rename World => u2) | (rename World => u1)))
  go_ret
  refine ⟨rfl, ?_⟩
  repeat' (first | with_reducible exact bl_refl _ | with_reducible assumption | with_reducible refine bl_alloc ?_ _ | with_reducible refine bl_set ?_ ?_ _ | with_reducible refine bl_drewN ?_ _ | with_reducible refine bl_drew ?_ | with_reducible refine bl_call (by assumption) ?_)

theorem toItemS_l (w : World) (A : Option Addr) (n c : Nat) (L : List It) (ha : TL w A n L) (hn : n ≤ 1048576) :
    Calls Try.prog 25 #[.slice A n c] w fun e w' => ∃ A' c', e = .returned (.slice A' L.length c') ∧ TO w' 76 w.heap.size A' c' L ∧ Below w.heap.size w w' := by
  obtain ⟨i0, hi0, hz0, hz1, hz2⟩ := info_parts it_info
  obtain rfl : n = L.length := ha.1
  go_enter Try.func25, Try.ntmps25
  go_wp2_with (refine wpList_make_full _ rfl _ _ _ rfl w.heap.size 76 i0 _ 6 Try.underlying26 hi0 hz0 hz1 .i64 .i64 _ _ L.length rfl rfl rfl rfl (by rw [hz2]; omega) (by unfold maxLen; omega) (Nat.le_refl _) ?_; intro w1 hown hgr)
  obtain ⟨M, hM⟩ : ∃ M, M = (madeCells (Value.agg #[.int .i64 0, .int .i64 0, .int .i64 0, .int .i64 0, .int .i64 0, .bool false]).cells (L.length * 6)).toList := ⟨_, rfl⟩
  rw [← hM] at hown
  clear hM
  obtain ⟨F, hF⟩ : ∃ F, F = L.flatMap Rec.cells := ⟨_, rfl⟩
  have hFl : F.length = L.length * 6 := by rw [hF]; exact flat_len L
  have hMl : M.length = F.length := by rw [hFl, ← hown.1]
  have HF := hide (fun i (hi : i < L.length) j (hj : j < 6) => show F[i * 6 + j]? = (Rec.cells (tg L i))[j]? by rw [hF]; exact flat_get L hi hj)
  have HM := hide hMl
  have HL := hide hFl
  have HE := hide hF
  have H0 : Hid (w1.ownsRow w.heap.size 76 6 (.slice (some ⟨w.heap.size, 0, none⟩) L.length L.length) L.length (vmix F M (0 * 6))) := hide (by rw [Nat.zero_mul, vmix_zero]; exact hown)
  have hb1 := below_new hgr
  have hz0 : w.heap.size ≤ w1.heap.size := hb1.size
  have HI := hide ha
  clear hown hgr ha hF hFl hMl
  go_wp2
  go_loopw [4] (fun i u => ∃ p : Nat, p ≤ L.length ∧ i = .int .i64 p ∧ u.ownsRow w.heap.size 76 6 (.slice (some ⟨w.heap.size, 0, none⟩) L.length L.length) L.length (vmix F M (p * 6)) ∧ Below w.heap.size w u) (fun i _ => L.length - (intOf i).toNat)
  case atStart => exact ⟨0, by omega, rfl, H0.out, hb1⟩
  case round =>
    obtain ⟨p, hp, rfl, hol, hbl⟩ := hrel
    by_cases hlt : p < L.length
    · obtain ⟨b, o, rfl, hb0, c0, c1, c2, c3, c4, c5⟩ := (HI.out.below hbl).at6 hlt
      have HO := hide hol
      have HB := hide hbl
      clear hol hbl
      go_wp2_with fail
      refine (toItem_l (tg L p) _).mono ?_
      rintro e u1 ⟨rfl, hb⟩
      have ho1 := own_below HO.out hb
      have HB1 := hide (bl_call hb HB.out)
      obtain ⟨_, d0⟩ := own_cell (j := p * 6) ho1 (by omega)
      obtain ⟨_, d1⟩ := own_cell (j := p * 6 + 1) ho1 (by omega)
      obtain ⟨_, d2⟩ := own_cell (j := p * 6 + 2) ho1 (by omega)
      obtain ⟨_, d3⟩ := own_cell (j := p * 6 + 3) ho1 (by omega)
      obtain ⟨_, d4⟩ := own_cell (j := p * 6 + 4) ho1 (by omega)
      obtain ⟨_, d5⟩ := own_cell (j := p * 6 + 5) ho1 (by omega)
      have f0 := World.ownsRow.frozenAt ho1 (p * 6)
      have f1 := World.ownsRow.frozenAt ho1 (p * 6 + 1)
      have f2 := World.ownsRow.frozenAt ho1 (p * 6 + 2)
      have f3 := World.ownsRow.frozenAt ho1 (p * 6 + 3)
      have f4 := World.ownsRow.frozenAt ho1 (p * 6 + 4)
      have f5 := World.ownsRow.frozenAt ho1 (p * 6 + 5)
      have M1 := hide (own_put6 ho1 HM.out (HF.out p hlt 0 (by decide)) (HF.out p hlt 1 (by decide)) (HF.out p hlt 2 (by decide)) (HF.out p hlt 3 (by decide)) (HF.out p hlt 4 (by decide)) (HF.out p hlt 5 (by decide)))
      clear ho1 hb
      go_wp2
      go_roundw
      case rel => exact ⟨p + 1, by omega, by go_num, M1.out, bl_set (bl_set (bl_set (bl_set (bl_set (bl_set HB1.out (Nat.le_refl _) _) (Nat.le_refl _) _) (Nat.le_refl _) _) (Nat.le_refl _) _) (Nat.le_refl _) _) (Nat.le_refl _) _⟩
      case measure => simp [intOf]; omega
    · have hpe : p = L.length := by omega
      have M1 : Hid (TO wr 76 w.heap.size (some ⟨w.heap.size, 0, none⟩) L.length L) := hide (by
        rw [hpe, vmix_all HM.out HL.out, HE.out] at hol
        exact hol)
      clear hol
      go_wp2
      go_ret
      exact ⟨_, _, rfl, M1.out, hbl⟩

theorem eqItemS_l (w : World) (A A' : Option Addr) (n c c' : Nat) (L : List It) (ha : TL w A n L) (hb : TL w A' n L) (hn : n ≤ 1048576) :
    Calls Try.prog 28 #[.slice A n c, .slice A' n c'] w fun e w' => e = .returned (.bool true) ∧ Below w.heap.size w w' := by
  obtain rfl : n = L.length := ha.1
  have HA := hide ha
  have HB := hide hb
  clear ha hb
  go_enter Try.func28, Try.ntmps28
  go_wp2
  go_loopw [5] (fun i u => ∃ p : Nat, p ≤ L.length ∧ i = .int .i64 p ∧ Below w.heap.size w u) (fun i _ => L.length - (intOf i).toNat)
  case atStart => exact ⟨0, by omega, rfl, bl_refl _⟩
  case round =>
    obtain ⟨p, hp, rfl, hbl⟩ := hrel
    by_cases hlt : p < L.length
    · obtain ⟨b, o, rfl, hb0, c0, c1, c2, c3, c4, c5⟩ := (HA.out.below hbl).at6 hlt
      obtain ⟨b', o', rfl, hb0', d0, d1, d2, d3, d4, d5⟩ := (HB.out.below hbl).at6 hlt
      have HBL := hide hbl
      clear hbl
      go_wp2_with fail
      go_region_with (go_at_call 76; (with_reducible refine (eqItem_l (tg L p) _).mono ?_); rintro e w' ⟨rfl, hbq⟩)
      all_goals
        go_wp2
        go_roundw
        case rel => exact ⟨p + 1, by omega, by go_num, bl_call hbq (bl_drew HBL.out)⟩
        case measure => simp [intOf]; omega
    · go_wp2
      go_ret
      exact ⟨rfl, hbl⟩

theorem markItemS_l (w : World) (e : TypeId) (B : Nat) (A : Option Addr) (c : Nat) (L : List It) (z : Int) (ha : TO w e B A c L) (hn : L.length ≤ 2000000) (z0 : 0 ≤ z) (z1 : z ≤ 1000000000) :
    Calls Try.prog 29 #[.slice A L.length c, .int .i64 z] w fun e' w' => e' = .returned (.int .i64 (z + 6 * (L.length : Int))) ∧ w.grownBy w' (Value.slice A L.length c).ownBlock := by
  rcases Nat.eq_zero_or_pos L.length with h0 | h0
  · rw [h0]
    go_enter Try.func29, Try.ntmps29
    go_wp2
    go_loop [1, 5] (fun k i => k = .int .i64 z ∧ i = .int .i64 0) (fun _ _ => 0)
    case atStart => exact ⟨rfl, rfl⟩
    case round =>
      obtain ⟨rfl, rfl⟩ := hrel
      go_wp2
      go_ret
      exact ⟨int_ret (by simp), World.grownBy.refl _ _⟩
  · obtain ⟨g, rfl, hB, hg, hfz⟩ := ha.frozen h0
    have H0 : Hid (∃ xs, w.ownsRow B e 6 (.slice (some ⟨g, 0, none⟩) L.length c) L.length xs) := hide ⟨_, ha⟩
    clear ha hfz
    go_enter Try.func29, Try.ntmps29
    go_wp2
    go_loopw [1, 5] (fun k i u => ∃ p : Nat, p ≤ L.length ∧ k = .int .i64 (z + 6 * p) ∧ i = .int .i64 p ∧ (∃ xs, u.ownsRow B e 6 (.slice (some ⟨g, 0, none⟩) L.length c) L.length xs) ∧ w.grownBy u (some g)) (fun _ i _ => L.length - (intOf i).toNat)
    case atStart => exact ⟨0, by omega, by go_num, rfl, H0.out, World.grownBy.refl _ _⟩
    case round =>
      obtain ⟨p, hp, rfl, rfl, ⟨xs, hol⟩, hgr⟩ := hrel
      by_cases hlt : p < L.length
      · obtain ⟨_, d0⟩ := own_cell (j := p * 6) hol (by omega)
        obtain ⟨_, d1⟩ := own_cell (j := p * 6 + 1) hol (by omega)
        obtain ⟨_, d2⟩ := own_cell (j := p * 6 + 2) hol (by omega)
        obtain ⟨_, d3⟩ := own_cell (j := p * 6 + 3) hol (by omega)
        obtain ⟨_, d4⟩ := own_cell (j := p * 6 + 4) hol (by omega)
        obtain ⟨_, d5⟩ := own_cell (j := p * 6 + 5) hol (by omega)
        have f0 := World.ownsRow.frozenAt hol (p * 6)
        have f1 := World.ownsRow.frozenAt hol (p * 6 + 1)
        have f2 := World.ownsRow.frozenAt hol (p * 6 + 2)
        have f3 := World.ownsRow.frozenAt hol (p * 6 + 3)
        have f4 := World.ownsRow.frozenAt hol (p * 6 + 4)
        have f5 := World.ownsRow.frozenAt hol (p * 6 + 5)
        have M := hide (fun a b d x y v => World.ownsRow.stored (World.ownsRow.stored (World.ownsRow.stored (World.ownsRow.stored (World.ownsRow.stored (World.ownsRow.stored hol (p * 6) a).1 (p * 6 + 1) b).1 (p * 6 + 2) d).1 (p * 6 + 3) x).1 (p * 6 + 4) y).1 (p * 6 + 5) v)
        have HG := hide hgr
        clear hol hgr
        go_wp2
        go_roundw
        case rel => exact ⟨p + 1, by omega, by go_num, by go_num, ⟨_, (M.out _ _ _ _ _ _).1⟩, on_set' (on_set' (on_set' (on_set' (on_set' (on_set' HG.out (.inl rfl) _) (.inl rfl) _) (.inl rfl) _) (.inl rfl) _) (.inl rfl) _) (.inl rfl) _⟩
        case measure => simp [intOf]; omega
      · go_wp2
        go_ret
        exact ⟨int_ret (by omega), hgr⟩
end Go.Proofs.Ytafddofajfcffaa
