/- The law on common items holds at every input. No condition. -/
import Derived.Test.YtlkfpcajpdohiaaSa
import Derived.Test.YtlkfpcajpdohiaaItE
import Derived.Test.YtlkfpcajpdohiaaDrawIt
import Derived.Deep.RegionHeld3
namespace Go.Proofs.Ytlkfpcajpdohiaa
open Go.ChangeShapes Go.WideShapes Go.ChangeAt Go.RowKit
set_option linter.unusedVariables false
open Classical

theorem small_rowi {w : World} {a : Option Addr} {n c : Nat} {zs : List Int} (h : IsRow .u8 w a n c zs) : n ≤ maxLen := by
  rcases h with ⟨_, rfl, _, _⟩ | ⟨_, _, hl, hm, _⟩
  · exact Nat.zero_le _
  · omega
theorem TL.takei {w : World} {A : Option Addr} {n k : Nat} {L : List It} (h : TL w A n L) (hk : k ≤ n) : TL w A k (L.take k) := by
  obtain rfl : n = L.length := h.1
  refine ⟨by simp; omega, fun h0 => ?_⟩
  obtain ⟨b, o, e, hb, hc⟩ := h.2 (by omega)
  refine ⟨b, o, e, hb, fun i hi j hj => ?_⟩
  rw [hc i (by omega) j hj]
  simp [tg, List.getD, hi]
theorem TO_capi {w : World} {e : TypeId} {B : Nat} {A : Option Addr} {c : Nat} {L : List It} (h : TO w e B A c L) : L.length ≤ c := by
  rcases Nat.eq_zero_or_pos L.length with h0 | h0
  · omega
  · obtain ⟨_, _, _, _, h1, _⟩ := h.form h0
    exact h1
theorem TO.none_capi {w : World} {e : TypeId} {B : Nat} {A : Option Addr} {c : Nat} {L : List It} (h : TO w e B A c L) : A = none → c = 0 := fun e => by
  subst e
  rcases h.2 with ⟨h1, _⟩ | ⟨g, cap, cur, h1, _⟩
  · injection h1
  · cases h1
theorem slice_toi (A : Option Addr) (n c k : Nat) (hk : k ≤ c) (W : World) : (Instr.slice 25 (.slice A n c) none (some (.int .i64 k)) none).run Try.prog W = .ok (.slice A k c) W := by
  rw [run_slice_h (P := Try.prog) W 25 A n c (by kernel_rfl) .i64 (k : Int) (by omega) (by omega)]
  have hs : sizeOf (Try.prog.elem 25) = sizeOf 67 := by rw [show Try.prog.elem 25 = 67 from by kernel_rfl]
  rw [hs]
  have hz : (sizeOf 67).run Try.prog W = .ok 6 W := Try.sizeOf67 W
  rw [hz]
  have : sliced A 0 k c 6 = .slice A k c := by
    unfold sliced
    cases A <;> simp [Addr.add]
  simp [Result.andThen, this]
/-- An item stored whole. -/
theorem TO.put6i {w : World} {e : TypeId} {B g c : Nat} {L : List It} (h : TO w e B (some ⟨g, 0, none⟩) c L) {i : Nat} (hi : i < L.length) (x : It) : ∃ L' : List It, L'.length = L.length ∧ TO ((((((w.setCell ⟨g, i * 6, none⟩ (.int .i64 x.k)).setCell ⟨g, i * 6 + 1, none⟩ (.int .i64 x.w)).setCell ⟨g, i * 6 + 2, none⟩ (.int .i64 x.st)).setCell ⟨g, i * 6 + 3, none⟩ (.int .i64 x.sh)).setCell ⟨g, i * 6 + 4, none⟩ (.int .i64 x.p)).setCell ⟨g, i * 6 + 5, none⟩ (.bool x.f)) e B (some ⟨g, 0, none⟩) c L' := by
  have t0 := h.set6 (i := i) (j := 0) (x := ⟨x.k, (tg L i).w, (tg L i).st, (tg L i).sh, (tg L i).p, (tg L i).f⟩) (v := .int .i64 x.k) hi (by omega) rfl
  obtain ⟨L0, hL0⟩ : ∃ L0, L0 = L.set i ⟨x.k, (tg L i).w, (tg L i).st, (tg L i).sh, (tg L i).p, (tg L i).f⟩ := ⟨_, rfl⟩
  rw [← hL0] at t0
  have l0 : L0.length = L.length := by rw [hL0]; simp
  have t1 := t0.set6 (i := i) (j := 1) (x := ⟨(tg L0 i).k, x.w, (tg L0 i).st, (tg L0 i).sh, (tg L0 i).p, (tg L0 i).f⟩) (v := .int .i64 x.w) (by omega) (by omega) rfl
  obtain ⟨L1, hL1⟩ : ∃ L1, L1 = L0.set i ⟨(tg L0 i).k, x.w, (tg L0 i).st, (tg L0 i).sh, (tg L0 i).p, (tg L0 i).f⟩ := ⟨_, rfl⟩
  rw [← hL1] at t1
  have l1 : L1.length = L.length := by rw [hL1]; simp [l0]
  have t2 := t1.set6 (i := i) (j := 2) (x := ⟨(tg L1 i).k, (tg L1 i).w, x.st, (tg L1 i).sh, (tg L1 i).p, (tg L1 i).f⟩) (v := .int .i64 x.st) (by omega) (by omega) rfl
  obtain ⟨L2, hL2⟩ : ∃ L2, L2 = L1.set i ⟨(tg L1 i).k, (tg L1 i).w, x.st, (tg L1 i).sh, (tg L1 i).p, (tg L1 i).f⟩ := ⟨_, rfl⟩
  rw [← hL2] at t2
  have l2 : L2.length = L.length := by rw [hL2]; simp [l1]
  have t3 := t2.set6 (i := i) (j := 3) (x := ⟨(tg L2 i).k, (tg L2 i).w, (tg L2 i).st, x.sh, (tg L2 i).p, (tg L2 i).f⟩) (v := .int .i64 x.sh) (by omega) (by omega) rfl
  obtain ⟨L3, hL3⟩ : ∃ L3, L3 = L2.set i ⟨(tg L2 i).k, (tg L2 i).w, (tg L2 i).st, x.sh, (tg L2 i).p, (tg L2 i).f⟩ := ⟨_, rfl⟩
  rw [← hL3] at t3
  have l3 : L3.length = L.length := by rw [hL3]; simp [l2]
  have t4 := t3.set6 (i := i) (j := 4) (x := ⟨(tg L3 i).k, (tg L3 i).w, (tg L3 i).st, (tg L3 i).sh, x.p, (tg L3 i).f⟩) (v := .int .i64 x.p) (by omega) (by omega) rfl
  obtain ⟨L4, hL4⟩ : ∃ L4, L4 = L3.set i ⟨(tg L3 i).k, (tg L3 i).w, (tg L3 i).st, (tg L3 i).sh, x.p, (tg L3 i).f⟩ := ⟨_, rfl⟩
  rw [← hL4] at t4
  have l4 : L4.length = L.length := by rw [hL4]; simp [l3]
  have t5 := t4.set6 (i := i) (j := 5) (x := ⟨(tg L4 i).k, (tg L4 i).w, (tg L4 i).st, (tg L4 i).sh, (tg L4 i).p, x.f⟩) (v := .bool x.f) (by omega) (by omega) rfl
  exact ⟨_, by simp [l4], t5⟩

theorem six_on {a u : World} {g0 g : Nat} (h : a.grownBy u (some g0)) (hg : a.heap.size ≤ g) (i0 i1 i2 i3 i4 i5 : Nat) (v0 v1 v2 v3 v4 v5 : Value) : a.grownBy ((((((u.setCell ⟨g, i0, none⟩ v0).setCell ⟨g, i1, none⟩ v1).setCell ⟨g, i2, none⟩ v2).setCell ⟨g, i3, none⟩ v3).setCell ⟨g, i4, none⟩ v4).setCell ⟨g, i5, none⟩ v5) (some g0) :=
  on_set (on_set (on_set (on_set (on_set (on_set h (.inr hg) _) (.inr hg) _) (.inr hg) _) (.inr hg) _) (.inr hg) _) (.inr hg) _
theorem six_kept {u : World} {e : TypeId} {B c g : Nat} {A : Option Addr} {L : List It} (h : TO u e B A c L) (hne : ∀ k, (Value.slice A L.length c).ownBlock = some k → ¬ g = k) (i0 i1 i2 i3 i4 i5 : Nat) (v0 v1 v2 v3 v4 v5 : Value) : TO ((((((u.setCell ⟨g, i0, none⟩ v0).setCell ⟨g, i1, none⟩ v1).setCell ⟨g, i2, none⟩ v2).setCell ⟨g, i3, none⟩ v3).setCell ⟨g, i4, none⟩ v4).setCell ⟨g, i5, none⟩ v5) e B A c L :=
  TO.kept h (row := some g) (on_set' (on_set' (on_set' (on_set' (on_set' (on_set' (World.grownBy.refl u (some g)) (.inl rfl) v0) (.inl rfl) v1) (.inl rfl) v2) (.inl rfl) v3) (.inl rfl) v4) (.inl rfl) v5) (fun k hk e => hne k hk (by injection e))
set_option maxRecDepth 4000 in
set_option maxHeartbeats 4000000 in
theorem DrawCommonItems_any (w : World) (a : Option Addr) (n c : Nat) (zs : List Int) (h : IsRow .u8 w a n c zs) :
    Calls Try.prog 58 #[.slice a n c] w fun e w' => ∃ (A : Option Addr) (c : Nat) (L : List It) (A2 : Option Addr) (c2 : Nat) (M : List It), e = .returned (.tuple #[.slice A L.length c, .slice A2 M.length c2]) ∧ TO w' 67 w.heap.size A c L ∧ TO w' 67 w.heap.size A2 c2 M ∧ L.length ≤ 23 ∧ M.length ≤ 23 ∧ Below w.heap.size w w' := by
  obtain ⟨i0, hi0, jz0, jz1, jz2⟩ := info_parts it_info
  go_enter Try.func58, Try.ntmps58
  go_wp2_with fail
  (with_reducible refine (newReader_any _ _ _ _ _ h).mono ?_)
  rintro e u0 ⟨rfl, hrd, hb⟩
  have hgl : w.heap.size < u0.heap.size := hrd.lt
  go_wp2_with fail
  (with_reducible refine (anyItems_any _ _ _ _ hrd (by omega) (by omega)).mono ?_)
  rintro e u1 ⟨A, c1, L, rfl, hol, hll, hrd1, hon1⟩
  have hz1 := hon1.size
  go_wp2_with fail
  (with_reducible refine (anyItems_any _ _ _ _ hrd1 (by omega) (by omega)).mono ?_)
  rintro e u2 ⟨A2, c2, M, rfl, hol2, hll2, hrd2, hon2⟩
  have hz2 := hon2.size
  go_wp2_with fail
  (with_reducible refine (pick_any _ _ _ _ _ hrd2 (by omega) (by omega) (by omega)).mono ?_)
  rintro e u3 ⟨s, hs0, hs1, rfl, hrd3, hon3⟩
  have hz3 := hon3.size
  have hg1 : w.heap.size < u1.heap.size := by omega
  have HM := hide ((hol.readI hon2 (by omega)).readI hon3 (by omega))
  have HM2 := hide ((hol2.readI hon3 (by omega)).more (B' := w.heap.size) (by omega))
  have O3 := hide (on_call hon3 (on_call hon2 (on_call hon1 (on_below hb (on_refl w (some w.heap.size))))))
  clear hol hol2 hon1 hon2 hon3 hrd hrd1 hrd2 hb
  rcases (by omega : s ≠ 0 ∨ (s = 0 ∧ L.length ≤ 1) ∨ (s = 0 ∧ 1 < L.length)) with hs | ⟨rfl, hl⟩ | ⟨rfl, hl⟩
  · have hs' : (s == 0) = false := beq_eq_false_iff_ne.2 hs
    go_wp2
    go_ret2
    exact ⟨A, c1, L, A2, c2, M, rfl, HM.out.more (by omega), HM2.out, hll, hll2, on_new O3.out (Nat.le_refl _)⟩
  · have g1 : ¬ (1 : Int) < (L.length : Int) := by omega
    have g1' : decide ((1 : Int) < (L.length : Int)) = false := decide_eq_false g1
    go_wp2
    go_ret2
    exact ⟨A, c1, L, A2, c2, M, rfl, HM.out.more (by omega), HM2.out, hll, hll2, on_new O3.out (Nat.le_refl _)⟩
  · have H0 : Hid (TO (u3.alloc (.cells #[] 67)) 67 u3.heap.size (some ⟨u3.heap.size, 0, none⟩) 0 ([] : List It)) := hide (TO.lit0 (Nat.le_refl _))
    have HR := hide (HM.out.reads.alloc (.cells #[] 67))
    have HNC := hide (TO.none_capi HM.out)
    have hg3 := hrd3.lt
    have HRD3 := hide hrd3
    clear hrd3
    go_wp2_with (at_builtin; refine wpList_append_recs rfl (.tmp 22) (.tmp 23) _ rfl 67 i0 _ 48 Try.underlying25 hi0 jz0 jz1 jz2 rfl (by decide) u3.heap.size (some ⟨u3.heap.size, 0, none⟩) 0 0 [] rfl rfl H0.out A L.length c1 L rfl HR.out (fun r _ => ones6 r) HNC.out (by omega) (by simp) ?_; intro A3 c3 u4 ho4 hb4 hg4; rw [List.nil_append] at ho4; have hz4 := hb4.size; have HO4 := hide ho4; have HB4 := hide hb4; clear ho4 hb4 hg4)
    have hb34 : Below u3.heap.size u3 u4 := (bl_alloc (bl_refl u3) _).trans HB4.out
    have O4 := hide (on_below hb34 O3.out)
    have HM4 := hide (HM.out.below hb34)
    have HRD4 := hide (HRD3.out.below hb34)
    have hz34 := hb34.size
    clear hb34
    refine (pick_any _ _ _ _ _ HRD4.out (by omega) (by omega) (by omega)).mono ?_
    rintro e u5 ⟨k, hk0, hk1, rfl, hrd5, hon5⟩
    obtain ⟨k, rfl⟩ := Int.eq_ofNat_of_zero_le hk0
    have hz5 := hon5.size
    have hkl : k < L.length := by omega
    have ho5 := HO4.out.readI hon5 (by omega)
    have HM5 := hide (HM4.out.readI hon5 (by omega))
    have O5 := hide (on_call hon5 O4.out)
    obtain ⟨g', rfl, hBg, hgz, hfz⟩ := ho5.frozen (by omega)
    obtain ⟨b, o, he, _, e0, e1, e2, e3, e4, e5⟩ := ho5.reads.at6 (i := k) hkl
    injection he with he
    cases he
    rw [Nat.zero_add] at e0 e1 e2 e3 e4 e5
    have f0 := hfz (k * 6)
    have f1 := hfz (k * 6 + 1)
    have f2 := hfz (k * 6 + 2)
    have f3 := hfz (k * 6 + 3)
    have f4 := hfz (k * 6 + 4)
    have f5 := hfz (k * 6 + 5)
    obtain ⟨L', hl', hp'⟩ := ho5.put6i hkl ⟨1, 5, 0, 0, 0, false⟩
    have HP := hide hp'
    clear hfz ho5 hon5 hp' hk0 hk1
    have NE : ∀ k, (Value.slice A L.length c1).ownBlock = some k → ¬ g' = k := fun k hk e => by
      have := (HM.out.own_lt k hk).2
      omega
    have F1 := hide ((six_kept HM5.out NE (k * 6) (k * 6 + 1) (k * 6 + 2) (k * 6 + 3) (k * 6 + 4) (k * 6 + 5) (.int .i64 1) (.int .i64 5) (.int .i64 0) (.int .i64 0) (.int .i64 0) (.bool false)).more (B' := w.heap.size) (by omega))
    have F2 := hide (HP.out.more (B' := w.heap.size) (by omega))
    have F3 := hide (six_on O5.out (show w.heap.size ≤ g' by omega) (k * 6) (k * 6 + 1) (k * 6 + 2) (k * 6 + 3) (k * 6 + 4) (k * 6 + 5) (.int .i64 1) (.int .i64 5) (.int .i64 0) (.int .i64 0) (.int .i64 0) (.bool false))
    clear NE HP O5 HM5
    have hl2 := hide hl'
    clear hl'
    go_wp2
    go_ret2
    exact ⟨A, c1, L, some ⟨g', 0, none⟩, c3, L', by rw [hl2.out]; rfl, F1.out, F2.out, hll, by have := hl2.out; omega, on_new F3.out (Nat.le_refl _)⟩
theorem ci_le {L M : List It} {k : Nat} (h : ciO L M = (k : Int)) : isOk L = true ∧ isOk M = true ∧ k = kp L M := by
  cases q : isOk L
  · rw [ciO_no1 q] at h; omega
  cases q2 : isOk M
  · rw [ciO_no2 q2] at h; omega
  · rw [ciO_yes q q2] at h; exact ⟨rfl, rfl, by omega⟩
end Go.Proofs.Ytlkfpcajpdohiaa
