/- Placed texts: the laws' helpers on slices of them. -/
import Derived.Test.YtpgcpmfnidjhnaaTxt
import Derived.Test.YtpgcpmfnidjhnaaGp
import Derived.Test.YtpgcpmfnidjhnaaSp
namespace Go.Proofs.Ytpgcpmfnidjhnaa
open Go.ChangeShapes Go.WideShapes Go.ChangeAt Go.RowKit
set_option linter.unusedVariables false

/-- A placed text. -/
structure Pl where
  x : Int
  y : Int
  t : ByteArray
abbrev plv (p : Pl) : Value := .agg #[.int .i64 p.x, .int .i64 p.y, .string p.t]
instance : Rec Pl := ⟨3, by decide, fun p => [.int .i64 p.x, .int .i64 p.y, .string p.t], fun _ => rfl, ⟨0, 0, ByteArray.empty⟩⟩
theorem TL.atp {w : World} {A : Option Addr} {n : Nat} {L : List Pl} (h : TL w A n L) {i : Nat} (hi : i < n) : ∃ b o, A = some ⟨b, o, none⟩ ∧ b < w.heap.size ∧ w.cell? ⟨b, o + i * 3, none⟩ = some (.int .i64 (tg L i).x) ∧ w.cell? ⟨b, o + i * 3 + 1, none⟩ = some (.int .i64 (tg L i).y) ∧ w.cell? ⟨b, o + i * 3 + 2, none⟩ = some (.string (tg L i).t) := by
  obtain ⟨b, o, e, hb, hc⟩ := h.at_ hi
  exact ⟨b, o, e, hb, hc 0 (by decide), hc 1 (by decide), hc 2 (by decide)⟩
/-- Texts that no machine is too small for. -/
def PSz (L : List Pl) : Prop := ∀ k, k < L.length → (tg L k).t.size ≤ maxLen
theorem placed_in {H : Type} {enc : TypeId × Value → H} {P : Program} {w : World} {base : Nat} {sp : Nat → Bool} {held : Bool} {t e : TypeId} {a : Option Addr} {n c : Nat} {d : DataW H} {p : List MemPlace} (ht : P.underlying t = some (.slice e))
    (hk : flat P 5 e = some [.int .i64, .int .i64, .str]) (hm : P.cellsOf e = 3) (h : DataW.Trod enc P w base sp held t (.slice a n c) d p) : ∃ L : List Pl, TL w a n L ∧ n ≤ maxLen ∧ (PSz L ∧ ∀ k, k < L.length → (Lit.int .i64 (tg L k).x).wf = true ∧ (Lit.int .i64 (tg L k).y).wf = true) := by
  obtain ⟨h1, h2⟩ := flat_slice ht hk hm (by decide) h
  rcases Nat.eq_zero_or_pos n with h0 | h0
  · subst h0
    exact ⟨[], TL.nil _ _, h1, fun x hx => by simp at hx, fun x hx => by simp at hx⟩
  · obtain ⟨b, o, rfl, hb, hall⟩ := h2 h0
    have hall2 : ∀ i, i < n → ∃ x : Pl, (x.t.size ≤ maxLen ∧ (Lit.int .i64 x.x).wf = true ∧ (Lit.int .i64 x.y).wf = true) ∧ ∀ j, j < 3 → w.cell? ⟨b, o + i * 3 + j, none⟩ = (Rec.cells x)[j]? := by
      intro i hi
      obtain ⟨cs, ok, hc⟩ := hall i hi
      obtain ⟨_, _, rfl, ⟨a1, rfl, w1⟩, k1⟩ := ok.cons
      obtain ⟨_, _, rfl, ⟨a2, rfl, w2⟩, k2⟩ := k1.cons
      obtain ⟨_, _, rfl, ⟨a3, rfl, w3⟩, k3⟩ := k2.cons
      obtain rfl := k3.done
      exact ⟨⟨a1, a2, a3⟩, ⟨w3, w1, w2⟩, hc⟩
    haveI : Inhabited Pl := ⟨⟨0, 0, ByteArray.empty⟩⟩
    obtain ⟨f, hf⟩ := Go.Deep.choose_lt hall2
    have hg : ∀ i, i < n → tg ((List.range n).map f) i = f i := fun i hi => by simp [tg, List.getD, hi]
    refine ⟨(List.range n).map f, ⟨by simp, fun _ => ⟨b, o, rfl, hb, fun i hi j hj => ?_⟩⟩, h1, fun k hk => ?_, fun k hk => ?_⟩
    · rw [hg i hi]; exact (hf i hi).2 j hj
    · have hk' : k < n := by simpa using hk
      rw [hg k hk']; exact (hf k hk').1.1
    · have hk' : k < n := by simpa using hk
      rw [hg k hk']; exact (hf k hk').1.2

theorem Placed_info : (Try.prog.info? 58).map (fun i => (i.zero, i.size, i.bytes)) = some (some (.agg #[.int .i64 0, .int .i64 0, .string ByteArray.empty]), 3, 32) := by kernel_rfl
theorem szPlaced_l (x : Pl) (r : Int) (w : World) (hs : x.t.size ≤ maxLen) (h0 : 0 ≤ r) (h1 : r ≤ 1048576) :
    Calls Try.prog 76 #[plv x, .int .i64 r] w fun e w' => (∃ r' : Int, e = .returned (.int .i64 r') ∧ ((r' < 0 ∧ r' = -1) ∨ (0 ≤ r' ∧ r' = r - (x.t.size : Int)))) ∧ Below w.heap.size w w' := by
  obtain ⟨a, b, s⟩ := x
  unfold maxLen at hs
  simp only at hs
  rcases (by omega : r - (s.size : Int) < 0 ∨ 0 ≤ r - (s.size : Int)) with q | q
  · go_enter Try.func76, Try.ntmps76
    go_wp2
    go_ret
    exact ⟨⟨_, rfl, .inl ⟨by omega, rfl⟩⟩, (by (repeat' (first | with_reducible exact bl_refl _ | with_reducible assumption | with_reducible refine bl_alloc ?_ _ | with_reducible refine bl_set ?_ ?_ _ | with_reducible refine bl_drewN ?_ _ | with_reducible refine bl_drew ?_ | with_reducible refine bl_call (by assumption) ?_)); (all_goals (first | omega | (simp; done) | (simp; omega))))⟩
  · go_enter Try.func76, Try.ntmps76
    go_wp2
    go_ret
    exact ⟨⟨_, rfl, .inr ⟨by omega, rfl⟩⟩, (by (repeat' (first | with_reducible exact bl_refl _ | with_reducible assumption | with_reducible refine bl_alloc ?_ _ | with_reducible refine bl_set ?_ ?_ _ | with_reducible refine bl_drewN ?_ _ | with_reducible refine bl_drew ?_ | with_reducible refine bl_call (by assumption) ?_)); (all_goals (first | omega | (simp; done) | (simp; omega))))⟩
theorem szPlacedS_l (w : World) (A : Option Addr) (n c : Nat) (z : Int) (L : List Pl) (ha : TL w A n L) (hs : PSz L) (hn : n ≤ maxLen) (z0 : 0 ≤ z) (z1 : z ≤ 1048576) :
    Calls Try.prog 37 #[.slice A n c, .int .i64 z] w fun e w' => (∃ r : Int, e = .returned (.int .i64 r) ∧ (r = -1 ∨ (0 ≤ r ∧ (n : Int) ≤ z ∧ ∀ k, k < L.length → ((tg L k).t.size : Int) ≤ z))) ∧ Below w.heap.size w w' := by
  obtain rfl : n = L.length := ha.1
  have hn2 := hn
  unfold maxLen at hn2
  clear hn
  rcases (by omega : z - (L.length : Int) < 0 ∨ 0 ≤ z - (L.length : Int)) with h | h
  · clear hs
    go_enter Try.func37, Try.ntmps37
    go_wp2
    go_ret
    exact ⟨⟨_, rfl, .inl rfl⟩, bl_refl _⟩
  · have HS := hide hs
    have HA := hide ha
    clear hs ha
    go_enter Try.func37, Try.ntmps37
    go_wp2
    go_loopw [1, 5] (fun y i u => ∃ (p : Nat) (r : Int), p ≤ L.length ∧ y = .int .i64 r ∧ i = .int .i64 p ∧ 0 ≤ r ∧ r ≤ z - (L.length : Int) ∧ (∀ k, k < p → ((tg L k).t.size : Int) ≤ z) ∧ Below w.heap.size w u) (fun _ i _ => L.length - (intOf i).toNat)
    case atStart => exact ⟨0, _, by omega, by go_num, rfl, by omega, by omega, fun k hk => by omega, bl_refl _⟩
    case round =>
      obtain ⟨p, r, hp, rfl, rfl, r0, r1, hk, hbl⟩ := hrel
      have HK := hide hk
      have HB := hide hbl
      clear hk
      by_cases hlt : p < L.length
      · obtain ⟨b, o, rfl, hb0, c0, c1, c2⟩ := (HA.out.below hbl).atp hlt
        have HC := hide (fun (u : World) => szPlaced_l (tg L p) r u (HS.out p hlt) r0 (by omega))
        clear hbl
        go_wp2_with fail
        (with_reducible refine (HC.out _).mono ?_)
        rintro e u1 ⟨⟨r', rfl, q⟩, hb⟩
        rcases q with ⟨q1, rfl⟩ | ⟨q1, q2⟩
        · go_wp2
          go_ret
          exact ⟨⟨_, rfl, .inl rfl⟩, bl_call hb HB.out⟩
        · have hr1 : r' ≤ r := by omega
          have Q2 := hide q2
          clear q2
          go_wp2
          go_roundw
          case rel =>
            refine ⟨p + 1, r', by omega, rfl, by go_num, by omega, by omega, fun k hk => ?_, bl_call hb HB.out⟩
            rcases (by omega : k < p ∨ k = p) with e | e
            · exact HK.out k e
            · subst e; have := Q2.out; omega
          case measure => simp [intOf]; omega
      · go_wp2
        go_ret
        exact ⟨⟨_, rfl, .inr ⟨by omega, by omega, fun k hk => HK.out k (by omega)⟩⟩, hbl⟩
theorem toPlaced_l (x : Pl) (w : World) :
    Calls Try.prog 78 #[plv x] w fun e w' => e = .returned (plv x) ∧ Below w.heap.size w w' := by
  obtain ⟨a, b, c⟩ := x
  go_enter Try.func78, Try.ntmps78
  go_wp2
  refine bodyPost_ret (v := plv ⟨a, b, c⟩) (by simp [results, Try.results78, go_sem, *]) rfl ⟨rfl, ?_⟩
  repeat' (first | with_reducible exact bl_refl _ | with_reducible assumption | with_reducible refine bl_alloc ?_ _ | with_reducible refine bl_set ?_ ?_ _ | with_reducible refine bl_drewN ?_ _ | with_reducible refine bl_drew ?_ | with_reducible refine bl_call (by assumption) ?_)
  all_goals (first | omega | (simp; done) | (simp; omega))
theorem eqPlaced_l (x : Pl) (w : World) :
    Calls Try.prog 80 #[plv x, plv x] w fun e w' => e = .returned (.bool true) ∧ Below w.heap.size w w' := by
  obtain ⟨a, b, c⟩ := x
  have q := teq_yes c
  go_enter Try.func80, Try.ntmps80
  go_wp2
  go_ret
  refine ⟨rfl, ?_⟩
  repeat' (first | with_reducible exact bl_refl _ | with_reducible assumption | with_reducible refine bl_alloc ?_ _ | with_reducible refine bl_set ?_ ?_ _ | with_reducible refine bl_drewN ?_ _ | with_reducible refine bl_drew ?_ | with_reducible refine bl_call (by assumption) ?_)

theorem toPlacedS_l (w : World) (A : Option Addr) (n c : Nat) (L : List Pl) (ha : TL w A n L) (hn : n ≤ 1048576) :
    Calls Try.prog 39 #[.slice A n c] w fun e w' => ∃ A' c', e = .returned (.slice A' L.length c') ∧ TO w' 58 w.heap.size A' c' L ∧ Below w.heap.size w w' := by
  obtain ⟨i0, hi0, hz0, hz1, hz2⟩ := info_parts Placed_info
  obtain rfl : n = L.length := ha.1
  go_enter Try.func39, Try.ntmps39
  go_wp2_with (refine wpList_make_full _ rfl _ _ _ rfl w.heap.size 58 i0 _ 3 Try.underlying48 hi0 hz0 hz1 .i64 .i64 _ _ L.length rfl rfl rfl rfl (by rw [hz2]; omega) (by unfold maxLen; omega) (Nat.le_refl _) ?_; intro w1 hown hgr)
  obtain ⟨M, hM⟩ : ∃ M, M = (madeCells (Value.agg #[.int .i64 0, .int .i64 0, .string ByteArray.empty]).cells (L.length * 3)).toList := ⟨_, rfl⟩
  rw [← hM] at hown
  clear hM
  obtain ⟨F, hF⟩ : ∃ F, F = L.flatMap Rec.cells := ⟨_, rfl⟩
  have hFl : F.length = L.length * 3 := by rw [hF]; exact flat_len L
  have hMl : M.length = F.length := by rw [hFl, ← hown.1]
  have HF := hide (fun i (hi : i < L.length) j (hj : j < 3) => show F[i * 3 + j]? = (Rec.cells (tg L i))[j]? by rw [hF]; exact flat_get L hi hj)
  have HM := hide hMl
  have HL := hide hFl
  have HE := hide hF
  have H0 : Hid (w1.ownsRow w.heap.size 58 3 (.slice (some ⟨w.heap.size, 0, none⟩) L.length L.length) L.length (vmix F M (0 * 3))) := hide (by rw [Nat.zero_mul, vmix_zero]; exact hown)
  have hb1 := below_new hgr
  have hz0 : w.heap.size ≤ w1.heap.size := hb1.size
  have HI := hide ha
  clear hown hgr ha hF hFl hMl
  go_wp2
  go_loopw [4] (fun i u => ∃ p : Nat, p ≤ L.length ∧ i = .int .i64 p ∧ u.ownsRow w.heap.size 58 3 (.slice (some ⟨w.heap.size, 0, none⟩) L.length L.length) L.length (vmix F M (p * 3)) ∧ Below w.heap.size w u) (fun i _ => L.length - (intOf i).toNat)
  case atStart => exact ⟨0, by omega, rfl, H0.out, hb1⟩
  case round =>
    obtain ⟨p, hp, rfl, hol, hbl⟩ := hrel
    by_cases hlt : p < L.length
    · obtain ⟨b, o, rfl, hb0, c0, c1, c2⟩ := (HI.out.below hbl).atp hlt
      have HO := hide hol
      have HB := hide hbl
      clear hol hbl
      go_wp2_with fail
      refine (toPlaced_l (tg L p) _).mono ?_
      rintro e u1 ⟨rfl, hb⟩
      have ho1 := own_below HO.out hb
      have HB1 := hide (bl_call hb HB.out)
      obtain ⟨_, d0⟩ := own_cell (j := p * 3) ho1 (by omega)
      obtain ⟨_, d1⟩ := own_cell (j := p * 3 + 1) ho1 (by omega)
      obtain ⟨_, d2⟩ := own_cell (j := p * 3 + 2) ho1 (by omega)
      have f0 := World.ownsRow.frozenAt ho1 (p * 3)
      have f1 := World.ownsRow.frozenAt ho1 (p * 3 + 1)
      have f2 := World.ownsRow.frozenAt ho1 (p * 3 + 2)
      have M1 := hide (own_put3 ho1 HM.out (HF.out p hlt 0 (by decide)) (HF.out p hlt 1 (by decide)) (HF.out p hlt 2 (by decide)))
      clear ho1 hb
      go_wp2
      go_roundw
      case rel => exact ⟨p + 1, by omega, by go_num, M1.out, bl_set (bl_set (bl_set HB1.out (Nat.le_refl _) _) (Nat.le_refl _) _) (Nat.le_refl _) _⟩
      case measure => simp [intOf]; omega
    · have hpe : p = L.length := by omega
      have M1 : Hid (TO wr 58 w.heap.size (some ⟨w.heap.size, 0, none⟩) L.length L) := hide (by
        rw [hpe, vmix_all HM.out HL.out, HE.out] at hol
        exact hol)
      clear hol
      go_wp2
      go_ret
      exact ⟨_, _, rfl, M1.out, hbl⟩

theorem eqPlacedS_l (w : World) (A A' : Option Addr) (n c c' : Nat) (L : List Pl) (ha : TL w A n L) (hb : TL w A' n L) (hn : n ≤ 1048576) :
    Calls Try.prog 41 #[.slice A n c, .slice A' n c'] w fun e w' => e = .returned (.bool true) ∧ Below w.heap.size w w' := by
  obtain rfl : n = L.length := ha.1
  have HA := hide ha
  have HB := hide hb
  clear ha hb
  go_enter Try.func41, Try.ntmps41
  go_wp2
  go_loopw [5] (fun i u => ∃ p : Nat, p ≤ L.length ∧ i = .int .i64 p ∧ Below w.heap.size w u) (fun i _ => L.length - (intOf i).toNat)
  case atStart => exact ⟨0, by omega, rfl, bl_refl _⟩
  case round =>
    obtain ⟨p, hp, rfl, hbl⟩ := hrel
    by_cases hlt : p < L.length
    · obtain ⟨b, o, rfl, hb0, c0, c1, c2⟩ := (HA.out.below hbl).atp hlt
      obtain ⟨b', o', rfl, hb0', c0', c1', c2'⟩ := (HB.out.below hbl).atp hlt
      have HBL := hide hbl
      clear hbl
      go_wp2_with fail
      go_region_with (go_at_call 80; (with_reducible refine (eqPlaced_l (tg L p) _).mono ?_); rintro e w' ⟨rfl, hbq⟩)
      all_goals
        go_wp2
        go_roundw
        case rel => exact ⟨p + 1, by omega, by go_num, bl_call hbq (bl_drew HBL.out)⟩
        case measure => simp [intOf]; omega
    · go_wp2
      go_ret
      exact ⟨rfl, hbl⟩
end Go.Proofs.Ytpgcpmfnidjhnaa
