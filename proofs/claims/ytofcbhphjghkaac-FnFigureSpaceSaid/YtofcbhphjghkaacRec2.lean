/- The laws' helpers on slices of records of two integers (figures, cells). -/
import Derived.Test.YtofcbhphjghkaacGp
import Derived.Test.YtofcbhphjghkaacSp
namespace Go.Proofs.Ytofcbhphjghkaac
open Go.ChangeShapes Go.WideShapes Go.ChangeAt Go.RowKit
set_option linter.unusedVariables false

/-- Two integers. -/
structure Du where
  a : Int
  b : Int
instance : Rec Du := ⟨2, by decide, fun x => [.int .i64 x.a, .int .i64 x.b], fun _ => rfl, ⟨0, 0⟩⟩
abbrev rv2 (x : Du) : Value := .agg #[.int .i64 x.a, .int .i64 x.b]
theorem TL.at2 {w : World} {A : Option Addr} {n : Nat} {L : List Du} (h : TL w A n L) {i : Nat} (hi : i < n) : ∃ b o, A = some ⟨b, o, none⟩ ∧ b < w.heap.size ∧ w.cell? ⟨b, o + i * 2, none⟩ = some (.int .i64 (tg L i).a) ∧ w.cell? ⟨b, o + i * 2 + 1, none⟩ = some (.int .i64 (tg L i).b) := by
  obtain ⟨b, o, e, hb, hc⟩ := h.at_ hi
  exact ⟨b, o, e, hb, hc 0 (by decide), hc 1 (by decide)⟩
theorem own_put2 {w : World} {B g n c p : Nat} {e : TypeId} {F M : List Value} {a b : Value} (h : w.ownsRow B e 2 (.slice (some ⟨g, 0, none⟩) n c) n (vmix F M (p * 2))) (hl : M.length = F.length)
    (h0 : F[p * 2]? = some a) (h1 : F[p * 2 + 1]? = some b) :
    ((w.setCell ⟨g, p * 2, none⟩ a).setCell ⟨g, p * 2 + 1, none⟩ b).ownsRow B e 2 (.slice (some ⟨g, 0, none⟩) n c) n (vmix F M ((p + 1) * 2)) := by
  have s0 := (World.ownsRow.stored h (p * 2) a).1
  rw [vmix_put hl h0] at s0
  have s1 := (World.ownsRow.stored s0 (p * 2 + 1) b).1
  rw [vmix_put hl h1] at s1
  rw [show (p + 1) * 2 = p * 2 + 1 + 1 from by omega]
  exact s1
/-- A slice of pairs of integers that came in. -/
theorem duos_in {H : Type} {enc : TypeId × Value → H} {P : Program} {w : World} {base : Nat} {sp : Nat → Bool} {held : Bool} {t e : TypeId} {a : Option Addr} {n c : Nat} {d : DataW H} {p : List MemPlace} (ht : P.underlying t = some (.slice e))
    (hk : flat P 5 e = some [.int .i64, .int .i64]) (hm : P.cellsOf e = 2) (h : DataW.Trod enc P w base sp held t (.slice a n c) d p) : ∃ L : List Du, TL w a n L ∧ n ≤ maxLen := by
  obtain ⟨h1, h2⟩ := flat_slice ht hk hm (by decide) h
  rcases Nat.eq_zero_or_pos n with h0 | h0
  · subst h0
    exact ⟨[], TL.nil _ _, h1⟩
  · obtain ⟨b, o, rfl, hb, hall⟩ := h2 h0
    have hall2 : ∀ i, i < n → ∃ x : Du, ∀ j, j < 2 → w.cell? ⟨b, o + i * 2 + j, none⟩ = (Rec.cells x)[j]? := by
      intro i hi
      obtain ⟨cs, ok, hc⟩ := hall i hi
      obtain ⟨_, _, rfl, ⟨a1, rfl, w1⟩, k1⟩ := ok.cons
      obtain ⟨_, _, rfl, ⟨a2, rfl, w2⟩, k2⟩ := k1.cons
      obtain rfl := k2.done
      exact ⟨⟨a1, a2⟩, hc⟩
    haveI : Inhabited Du := ⟨⟨0, 0⟩⟩
    obtain ⟨f, hf⟩ := Go.Deep.choose_lt hall2
    refine ⟨(List.range n).map f, ⟨by simp, fun _ => ⟨b, o, rfl, hb, fun i hi j hj => ?_⟩⟩, h1⟩
    rw [show tg ((List.range n).map f) i = f i from by simp [tg, List.getD, hi]]
    exact hf i hi j hj

theorem szFigureS_l (w : World) (A : Option Addr) (n c : Nat) (z : Int) (hn : n ≤ 9223372036854775807) (z0 : 0 ≤ z) (z1 : z ≤ 1048576) :
    Calls Try.prog 15 #[.slice A n c, .int .i64 z] w fun e w' => e = .returned (.int .i64 (if z - n < 0 then -1 else z - n)) ∧ w = w' := by
  rcases (by omega : z - (n : Int) < 0 ∨ 0 ≤ z - (n : Int)) with h | h
  · rw [if_pos h]
    go_enter Try.func15, Try.ntmps15
    go_wp2
    go_ret
    exact ⟨rfl, rfl⟩
  · rw [if_neg (by omega)]
    go_enter Try.func15, Try.ntmps15
    go_wp2
    go_ret
    exact ⟨rfl, rfl⟩

theorem Figure_info : (Try.prog.info? 46).map (fun i => (i.zero, i.size, i.bytes)) = some (some (.agg #[.int .i64 0, .int .i64 0]), 2, 16) := by kernel_rfl

theorem toFigure_l (x : Du) (w : World) :
    Calls Try.prog 51 #[rv2 x] w fun e w' => e = .returned (rv2 x) ∧ Below w.heap.size w w' := by
  obtain ⟨a, b⟩ := x
  go_enter Try.func51, Try.ntmps51
  go_wp2
  refine bodyPost_ret (v := rv2 ⟨a, b⟩) (by simp [results, Try.results51, go_sem, *]) rfl ⟨rfl, ?_⟩
  repeat' (first | with_reducible exact bl_refl _ | with_reducible assumption | with_reducible refine bl_alloc ?_ _ | with_reducible refine bl_set ?_ ?_ _ | with_reducible refine bl_drewN ?_ _ | with_reducible refine bl_drew ?_ | with_reducible refine bl_call (by assumption) ?_)
  all_goals (first | omega | (simp; done) | (simp; omega))
theorem eqFigure_l (x : Du) (w : World) :
    Calls Try.prog 55 #[rv2 x, rv2 x] w fun e w' => e = .returned (.bool true) ∧ Below w.heap.size w w' := by
  obtain ⟨a, b⟩ := x
  go_enter Try.func55, Try.ntmps55
  go_wp2
  go_ret
  refine ⟨rfl, ?_⟩
  repeat' (first | with_reducible exact bl_refl _ | with_reducible assumption | with_reducible refine bl_alloc ?_ _ | with_reducible refine bl_set ?_ ?_ _ | with_reducible refine bl_drewN ?_ _ | with_reducible refine bl_drew ?_ | with_reducible refine bl_call (by assumption) ?_)

theorem toFigureS_l (w : World) (A : Option Addr) (n c : Nat) (L : List Du) (ha : TL w A n L) (hn : n ≤ 1048576) :
    Calls Try.prog 17 #[.slice A n c] w fun e w' => ∃ A' c', e = .returned (.slice A' L.length c') ∧ TO w' 46 w.heap.size A' c' L ∧ Below w.heap.size w w' := by
  obtain ⟨i0, hi0, hz0, hz1, hz2⟩ := info_parts Figure_info
  obtain rfl : n = L.length := ha.1
  go_enter Try.func17, Try.ntmps17
  go_wp2_with (refine wpList_make_full _ rfl _ _ _ rfl w.heap.size 46 i0 _ 2 Try.underlying26 hi0 hz0 hz1 .i64 .i64 _ _ L.length rfl rfl rfl rfl (by rw [hz2]; omega) (by unfold maxLen; omega) (Nat.le_refl _) ?_; intro w1 hown hgr)
  obtain ⟨M, hM⟩ : ∃ M, M = (madeCells (Value.agg #[.int .i64 0, .int .i64 0]).cells (L.length * 2)).toList := ⟨_, rfl⟩
  rw [← hM] at hown
  clear hM
  obtain ⟨F, hF⟩ : ∃ F, F = L.flatMap Rec.cells := ⟨_, rfl⟩
  have hFl : F.length = L.length * 2 := by rw [hF]; exact flat_len L
  have hMl : M.length = F.length := by rw [hFl, ← hown.1]
  have HF := hide (fun i (hi : i < L.length) j (hj : j < 2) => show F[i * 2 + j]? = (Rec.cells (tg L i))[j]? by rw [hF]; exact flat_get L hi hj)
  have HM := hide hMl
  have HL := hide hFl
  have HE := hide hF
  have H0 : Hid (w1.ownsRow w.heap.size 46 2 (.slice (some ⟨w.heap.size, 0, none⟩) L.length L.length) L.length (vmix F M (0 * 2))) := hide (by rw [Nat.zero_mul, vmix_zero]; exact hown)
  have hb1 := below_new hgr
  have hz0 : w.heap.size ≤ w1.heap.size := hb1.size
  have HI := hide ha
  clear hown hgr ha hF hFl hMl
  go_wp2
  go_loopw [4] (fun i u => ∃ p : Nat, p ≤ L.length ∧ i = .int .i64 p ∧ u.ownsRow w.heap.size 46 2 (.slice (some ⟨w.heap.size, 0, none⟩) L.length L.length) L.length (vmix F M (p * 2)) ∧ Below w.heap.size w u) (fun i _ => L.length - (intOf i).toNat)
  case atStart => exact ⟨0, by omega, rfl, H0.out, hb1⟩
  case round =>
    obtain ⟨p, hp, rfl, hol, hbl⟩ := hrel
    by_cases hlt : p < L.length
    · obtain ⟨b, o, rfl, hb0, c0, c1⟩ := (HI.out.below hbl).at2 hlt
      have HO := hide hol
      have HB := hide hbl
      clear hol hbl
      go_wp2_with fail
      refine (toFigure_l (tg L p) _).mono ?_
      rintro e u1 ⟨rfl, hb⟩
      have ho1 := own_below HO.out hb
      have HB1 := hide (bl_call hb HB.out)
      obtain ⟨_, d0⟩ := own_cell (j := p * 2) ho1 (by omega)
      obtain ⟨_, d1⟩ := own_cell (j := p * 2 + 1) ho1 (by omega)
      have f0 := World.ownsRow.frozenAt ho1 (p * 2)
      have f1 := World.ownsRow.frozenAt ho1 (p * 2 + 1)
      have M1 := hide (own_put2 ho1 HM.out (HF.out p hlt 0 (by decide)) (HF.out p hlt 1 (by decide)))
      clear ho1 hb
      go_wp2
      go_roundw
      case rel => exact ⟨p + 1, by omega, by go_num, M1.out, bl_set (bl_set HB1.out (Nat.le_refl _) _) (Nat.le_refl _) _⟩
      case measure => simp [intOf]; omega
    · have hpe : p = L.length := by omega
      have M1 : Hid (TO wr 46 w.heap.size (some ⟨w.heap.size, 0, none⟩) L.length L) := hide (by
        rw [hpe, vmix_all HM.out HL.out, HE.out] at hol
        exact hol)
      clear hol
      go_wp2
      go_ret
      exact ⟨_, _, rfl, M1.out, hbl⟩

theorem eqFigureS_l (w : World) (A A' : Option Addr) (n c c' : Nat) (L : List Du) (ha : TL w A n L) (hb : TL w A' n L) (hn : n ≤ 1048576) :
    Calls Try.prog 20 #[.slice A n c, .slice A' n c'] w fun e w' => e = .returned (.bool true) ∧ Below w.heap.size w w' := by
  obtain rfl : n = L.length := ha.1
  have HA := hide ha
  have HB := hide hb
  clear ha hb
  go_enter Try.func20, Try.ntmps20
  go_wp2
  go_loopw [5] (fun i u => ∃ p : Nat, p ≤ L.length ∧ i = .int .i64 p ∧ Below w.heap.size w u) (fun i _ => L.length - (intOf i).toNat)
  case atStart => exact ⟨0, by omega, rfl, bl_refl _⟩
  case round =>
    obtain ⟨p, hp, rfl, hbl⟩ := hrel
    by_cases hlt : p < L.length
    · obtain ⟨b, o, rfl, hb0, c0, c1⟩ := (HA.out.below hbl).at2 hlt
      obtain ⟨b', o', rfl, hb0', c0', c1'⟩ := (HB.out.below hbl).at2 hlt
      have HBL := hide hbl
      clear hbl
      go_wp2_with fail
      go_region_with (go_at_call 55; (with_reducible refine (eqFigure_l (tg L p) _).mono ?_); rintro e w' ⟨rfl, hbq⟩)
      all_goals
        go_wp2
        go_roundw
        case rel => exact ⟨p + 1, by omega, by go_num, bl_call hbq (bl_drew HBL.out)⟩
        case measure => simp [intOf]; omega
    · go_wp2
      go_ret
      exact ⟨rfl, hbl⟩

end Go.Proofs.Ytofcbhphjghkaac
