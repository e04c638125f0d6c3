/- The law on common items holds at every input. No condition. -/
import Derived.Test.YtmolkppdfbldnaaJn
import Derived.Test.YtmolkppdfbldnaaItE
import Derived.Test.YtmolkppdfbldnaaDrawIt
import Derived.Deep.RegionHeld3
namespace Go.Proofs.Ytmolkppdfbldnaa
open Go.ChangeShapes Go.WideShapes Go.ChangeAt Go.RowKit
set_option linter.unusedVariables false
open Classical

theorem small_rowi {w : World} {a : Option Addr} {n c : Nat} {zs : List Int} (h : IsRow .u8 w a n c zs) : n ≤ maxLen := by
  rcases h with ⟨_, rfl, _, _⟩ | ⟨_, _, hl, hm, _⟩
  · exact Nat.zero_le _
  · omega
theorem TL.takei {w : World} {A : Option Addr} {n k : Nat} {L : List It} (h : TL w A n L) (hk : k ≤ n) : TL w A k (L.take k) := by
  obtain rfl : n = L.length := h.1
  refine ⟨by simp; omega, fun h0 => ?_⟩
  obtain ⟨b, o, e, hb, hc⟩ := h.2 (by omega)
  refine ⟨b, o, e, hb, fun i hi j hj => ?_⟩
  rw [hc i (by omega) j hj]
  simp [tg, List.getD, List.getElem?_take, hi]
theorem TO_capi {w : World} {e : TypeId} {B : Nat} {A : Option Addr} {c : Nat} {L : List It} (h : TO w e B A c L) : L.length ≤ c := by
  rcases Nat.eq_zero_or_pos L.length with h0 | h0
  · omega
  · obtain ⟨_, _, _, _, h1, _⟩ := h.form h0
    exact h1
theorem TO.none_capi {w : World} {e : TypeId} {B : Nat} {A : Option Addr} {c : Nat} {L : List It} (h : TO w e B A c L) : A = none → c = 0 := fun e => by
  subst e
  rcases h.2 with ⟨h1, _⟩ | ⟨g, cap, cur, h1, _⟩
  · injection h1
  · cases h1
theorem slice_toi (A : Option Addr) (n c k : Nat) (hk : k ≤ c) (W : World) : (Instr.slice 26 (.slice A n c) none (some (.int .i64 k)) none).run Try.prog W = .ok (.slice A k c) W := by
  rw [run_slice_h (P := Try.prog) W 26 A n c (by kernel_rfl) .i64 (k : Int) (by omega) (by omega)]
  have hs : sizeOf (Try.prog.elem 26) = sizeOf 51 := by rw [show Try.prog.elem 26 = 51 from by kernel_rfl]
  rw [hs]
  have hz : (sizeOf 51).run Try.prog W = .ok 6 W := Try.sizeOf51 W
  rw [hz]
  have : sliced A 0 k c 6 = .slice A k c := by
    unfold sliced
    cases A <;> simp [Addr.add]
  simp [Result.andThen, this]
/-- An item stored whole. -/
theorem TO.put6i {w : World} {e : TypeId} {B g c : Nat} {L : List It} (h : TO w e B (some ⟨g, 0, none⟩) c L) {i : Nat} (hi : i < L.length) (x : It) : ∃ L' : List It, L'.length = L.length ∧ TO ((((((w.setCell ⟨g, i * 6, none⟩ (.int .i64 x.k)).setCell ⟨g, i * 6 + 1, none⟩ (.int .i64 x.w)).setCell ⟨g, i * 6 + 2, none⟩ (.int .i64 x.st)).setCell ⟨g, i * 6 + 3, none⟩ (.int .i64 x.sh)).setCell ⟨g, i * 6 + 4, none⟩ (.int .i64 x.p)).setCell ⟨g, i * 6 + 5, none⟩ (.bool x.f)) e B (some ⟨g, 0, none⟩) c L' := by
  have t0 := h.set6 (i := i) (j := 0) (x := ⟨x.k, (tg L i).w, (tg L i).st, (tg L i).sh, (tg L i).p, (tg L i).f⟩) (v := .int .i64 x.k) hi (by omega) rfl
  obtain ⟨L0, hL0⟩ : ∃ L0, L0 = L.set i ⟨x.k, (tg L i).w, (tg L i).st, (tg L i).sh, (tg L i).p, (tg L i).f⟩ := ⟨_, rfl⟩
  rw [← hL0] at t0
  have l0 : L0.length = L.length := by rw [hL0]; simp
  have t1 := t0.set6 (i := i) (j := 1) (x := ⟨(tg L0 i).k, x.w, (tg L0 i).st, (tg L0 i).sh, (tg L0 i).p, (tg L0 i).f⟩) (v := .int .i64 x.w) (by omega) (by omega) rfl
  obtain ⟨L1, hL1⟩ : ∃ L1, L1 = L0.set i ⟨(tg L0 i).k, x.w, (tg L0 i).st, (tg L0 i).sh, (tg L0 i).p, (tg L0 i).f⟩ := ⟨_, rfl⟩
  rw [← hL1] at t1
  have l1 : L1.length = L.length := by rw [hL1]; simp [l0]
  have t2 := t1.set6 (i := i) (j := 2) (x := ⟨(tg L1 i).k, (tg L1 i).w, x.st, (tg L1 i).sh, (tg L1 i).p, (tg L1 i).f⟩) (v := .int .i64 x.st) (by omega) (by omega) rfl
  obtain ⟨L2, hL2⟩ : ∃ L2, L2 = L1.set i ⟨(tg L1 i).k, (tg L1 i).w, x.st, (tg L1 i).sh, (tg L1 i).p, (tg L1 i).f⟩ := ⟨_, rfl⟩
  rw [← hL2] at t2
  have l2 : L2.length = L.length := by rw [hL2]; simp [l1]
  have t3 := t2.set6 (i := i) (j := 3) (x := ⟨(tg L2 i).k, (tg L2 i).w, (tg L2 i).st, x.sh, (tg L2 i).p, (tg L2 i).f⟩) (v := .int .i64 x.sh) (by omega) (by omega) rfl
  obtain ⟨L3, hL3⟩ : ∃ L3, L3 = L2.set i ⟨(tg L2 i).k, (tg L2 i).w, (tg L2 i).st, x.sh, (tg L2 i).p, (tg L2 i).f⟩ := ⟨_, rfl⟩
  rw [← hL3] at t3
  have l3 : L3.length = L.length := by rw [hL3]; simp [l2]
  have t4 := t3.set6 (i := i) (j := 4) (x := ⟨(tg L3 i).k, (tg L3 i).w, (tg L3 i).st, (tg L3 i).sh, x.p, (tg L3 i).f⟩) (v := .int .i64 x.p) (by omega) (by omega) rfl
  obtain ⟨L4, hL4⟩ : ∃ L4, L4 = L3.set i ⟨(tg L3 i).k, (tg L3 i).w, (tg L3 i).st, (tg L3 i).sh, x.p, (tg L3 i).f⟩ := ⟨_, rfl⟩
  rw [← hL4] at t4
  have l4 : L4.length = L.length := by rw [hL4]; simp [l3]
  have t5 := t4.set6 (i := i) (j := 5) (x := ⟨(tg L4 i).k, (tg L4 i).w, (tg L4 i).st, (tg L4 i).sh, (tg L4 i).p, x.f⟩) (v := .bool x.f) (by omega) (by omega) rfl
  exact ⟨_, by simp [l4], t5⟩

theorem six_on {a u : World} {g0 g : Nat} (h : a.grownBy u (some g0)) (hg : a.heap.size ≤ g) (i0 i1 i2 i3 i4 i5 : Nat) (v0 v1 v2 v3 v4 v5 : Value) : a.grownBy ((((((u.setCell ⟨g, i0, none⟩ v0).setCell ⟨g, i1, none⟩ v1).setCell ⟨g, i2, none⟩ v2).setCell ⟨g, i3, none⟩ v3).setCell ⟨g, i4, none⟩ v4).setCell ⟨g, i5, none⟩ v5) (some g0) :=
  on_set (on_set (on_set (on_set (on_set (on_set h (.inr hg) _) (.inr hg) _) (.inr hg) _) (.inr hg) _) (.inr hg) _) (.inr hg) _
theorem six_kept {u : World} {e : TypeId} {B c g : Nat} {A : Option Addr} {L : List It} (h : TO u e B A c L) (hne : ∀ k, (Value.slice A L.length c).ownBlock = some k → ¬ g = k) (i0 i1 i2 i3 i4 i5 : Nat) (v0 v1 v2 v3 v4 v5 : Value) : TO ((((((u.setCell ⟨g, i0, none⟩ v0).setCell ⟨g, i1, none⟩ v1).setCell ⟨g, i2, none⟩ v2).setCell ⟨g, i3, none⟩ v3).setCell ⟨g, i4, none⟩ v4).setCell ⟨g, i5, none⟩ v5) e B A c L :=
  TO.kept h (row := some g) (on_set' (on_set' (on_set' (on_set' (on_set' (on_set' (World.grownBy.refl u (some g)) (.inl rfl) v0) (.inl rfl) v1) (.inl rfl) v2) (.inl rfl) v3) (.inl rfl) v4) (.inl rfl) v5) (fun k hk e => hne k hk (by injection e))
set_option maxRecDepth 4000 in
set_option maxHeartbeats 4000000 in
theorem DrawCommonItems_any (w : World) (a : Option Addr) (n c : Nat) (zs : List Int) (h : IsRow .u8 w a n c zs) :
    Calls Try.prog 55 #[.slice a n c] w fun e w' => ∃ (A : Option Addr) (c : Nat) (L : List It) (A2 : Option Addr) (c2 : Nat) (M : List It), e = .returned (.tuple #[.slice A L.length c, .slice A2 M.length c2]) ∧ TO w' 51 w.heap.size A c L ∧ TO w' 51 w.heap.size A2 c2 M ∧ L.length ≤ 23 ∧ M.length ≤ 23 ∧ Below w.heap.size w w' := by
  obtain ⟨i0, hi0, jz0, jz1, jz2⟩ := info_parts it_info
  go_enter Try.func55, Try.ntmps55
  go_wp2_with fail
  (with_reducible refine (newReader_any _ _ _ _ _ h).mono ?_)
  rintro e u0 ⟨rfl, hrd, hb⟩
  have hgl : w.heap.size < u0.heap.size := hrd.lt
  go_wp2_with fail
  (with_reducible refine (anyItems_any _ _ _ _ hrd (by omega) (by omega)).mono ?_)
  rintro e u1 ⟨A, c1, L, rfl, hol, hll, hrd1, hon1⟩
  have hz1 := hon1.size
  go_wp2_with fail
  (with_reducible refine (anyItems_any _ _ _ _ hrd1 (by omega) (by omega)).mono ?_)
  rintro e u2 ⟨A2, c2, M, rfl, hol2, hll2, hrd2, hon2⟩
  have hz2 := hon2.size
  go_wp2_with fail
  (with_reducible refine (pick_any _ _ _ _ _ hrd2 (by omega) (by omega) (by omega)).mono ?_)
  rintro e u3 ⟨s, hs0, hs1, rfl, hrd3, hon3⟩
  have hz3 := hon3.size
  have hg1 : w.heap.size < u1.heap.size := by omega
  have HM := hide ((hol.readI hon2 (by omega)).readI hon3 (by omega))
  have HM2 := hide ((hol2.readI hon3 (by omega)).more (B' := w.heap.size) (by omega))
  have O3 := hide (on_call hon3 (on_call hon2 (on_call hon1 (on_below hb (on_refl w (some w.heap.size))))))
  clear hol hol2 hon1 hon2 hon3 hrd hrd1 hrd2 hb
  rcases (by omega : s ≠ 0 ∨ (s = 0 ∧ L.length ≤ 1) ∨ (s = 0 ∧ 1 < L.length)) with hs | ⟨rfl, hl⟩ | ⟨rfl, hl⟩
  · have hs' : (s == 0) = false := beq_eq_false_iff_ne.2 hs
    go_wp2
    go_ret2
    exact ⟨A, c1, L, A2, c2, M, rfl, HM.out.more (by omega), HM2.out, hll, hll2, on_new O3.out (Nat.le_refl _)⟩
  · have g1 : ¬ (1 : Int) < (L.length : Int) := by omega
    have g1' : decide ((1 : Int) < (L.length : Int)) = false := decide_eq_false g1
    go_wp2
    go_ret2
    exact ⟨A, c1, L, A2, c2, M, rfl, HM.out.more (by omega), HM2.out, hll, hll2, on_new O3.out (Nat.le_refl _)⟩
  · have H0 : Hid (TO (u3.alloc (.cells #[] 51)) 51 u3.heap.size (some ⟨u3.heap.size, 0, none⟩) 0 ([] : List It)) := hide (TO.lit0 (Nat.le_refl _))
    have HR := hide (HM.out.reads.alloc (.cells #[] 51))
    have HNC := hide (TO.none_capi HM.out)
    have hg3 := hrd3.lt
    have HRD3 := hide hrd3
    clear hrd3
    go_wp2_with (at_builtin; refine wpList_append_recs rfl (.tmp 22) (.tmp 23) _ rfl 51 i0 _ 48 Try.underlying26 hi0 jz0 jz1 jz2 rfl (by decide) u3.heap.size (some ⟨u3.heap.size, 0, none⟩) 0 0 [] rfl rfl H0.out A L.length c1 L rfl HR.out (fun r _ => ones6 r) HNC.out (by omega) (by simp) ?_; intro A3 c3 u4 ho4 hb4 hg4; rw [List.nil_append] at ho4; have hz4 := hb4.size; have HO4 := hide ho4; have HB4 := hide hb4; clear ho4 hb4 hg4)
    have hb34 : Below u3.heap.size u3 u4 := (bl_alloc (bl_refl u3) _).trans HB4.out
    have O4 := hide (on_below hb34 O3.out)
    have HM4 := hide (HM.out.below hb34)
    have HRD4 := hide (HRD3.out.below hb34)
    have hz34 := hb34.size
    clear hb34
    refine (pick_any _ _ _ _ _ HRD4.out (by omega) (by omega) (by omega)).mono ?_
    rintro e u5 ⟨k, hk0, hk1, rfl, hrd5, hon5⟩
    obtain ⟨k, rfl⟩ := Int.eq_ofNat_of_zero_le hk0
    have hz5 := hon5.size
    have hkl : k < L.length := by omega
    have ho5 := HO4.out.readI hon5 (by omega)
    have HM5 := hide (HM4.out.readI hon5 (by omega))
    have O5 := hide (on_call hon5 O4.out)
    obtain ⟨g', rfl, hBg, hgz, hfz⟩ := ho5.frozen (by omega)
    obtain ⟨b, o, he, _, e0, e1, e2, e3, e4, e5⟩ := ho5.reads.at6 (i := k) hkl
    injection he with he
    cases he
    rw [Nat.zero_add] at e0 e1 e2 e3 e4 e5
    have f0 := hfz (k * 6)
    have f1 := hfz (k * 6 + 1)
    have f2 := hfz (k * 6 + 2)
    have f3 := hfz (k * 6 + 3)
    have f4 := hfz (k * 6 + 4)
    have f5 := hfz (k * 6 + 5)
    obtain ⟨L', hl', hp'⟩ := ho5.put6i hkl ⟨1, 5, 0, 0, 0, false⟩
    have HP := hide hp'
    clear hfz ho5 hon5 hp' hk0 hk1
    have NE : ∀ k, (Value.slice A L.length c1).ownBlock = some k → ¬ g' = k := fun k hk e => by
      have := (HM.out.own_lt k hk).2
      omega
    have F1 := hide ((six_kept HM5.out NE (k * 6) (k * 6 + 1) (k * 6 + 2) (k * 6 + 3) (k * 6 + 4) (k * 6 + 5) (.int .i64 1) (.int .i64 5) (.int .i64 0) (.int .i64 0) (.int .i64 0) (.bool false)).more (B' := w.heap.size) (by omega))
    have F2 := hide (HP.out.more (B' := w.heap.size) (by omega))
    have F3 := hide (six_on O5.out (show w.heap.size ≤ g' by omega) (k * 6) (k * 6 + 1) (k * 6 + 2) (k * 6 + 3) (k * 6 + 4) (k * 6 + 5) (.int .i64 1) (.int .i64 5) (.int .i64 0) (.int .i64 0) (.int .i64 0) (.bool false))
    clear NE HP O5 HM5
    have hl2 := hide hl'
    clear hl'
    go_wp2
    go_ret2
    exact ⟨A, c1, L, some ⟨g', 0, none⟩, c3, L', by rw [hl2.out]; rfl, F1.out, F2.out, hll, by have := hl2.out; omega, on_new F3.out (Nat.le_refl _)⟩
theorem ci_le {L M : List It} {k : Nat} (h : ciO L M = (k : Int)) : isOk L = true ∧ isOk M = true ∧ k = kp L M := by
  cases q : isOk L
  · rw [ciO_no1 q] at h; omega
  cases q2 : isOk M
  · rw [ciO_no2 q2] at h; omega
  · rw [ciO_yes q q2] at h; exact ⟨rfl, rfl, by omega⟩
set_option maxRecDepth 8000 in
set_option maxHeartbeats 4000000 in
theorem walk_FnCommonItems (a : Option Addr) (n c : Nat) (zs : List Int) (w : World) (hr : IsRow .u8 w a n c zs) :
    Calls Try.prog 18 #[.slice a n c] w fun e w' => e = .returned (.bool true) ∧ Below w.heap.size w w' := by
  have hm := small_rowi hr
  unfold maxLen at hm
  rcases (by omega : 1048576 < n ∨ n ≤ 1048576) with hn | hn
  · go_enter Try.func18, Try.ntmps18
    go_wp2
    go_ret
    exact ⟨rfl, bl_refl _⟩
  go_enter Try.func18, Try.ntmps18
  go_wp2_with fail
  (with_reducible refine (DrawCommonItems_any _ _ _ _ _ hr).mono ?_)
  rintro e u0 ⟨A, c1, L, A2, c2, M, rfl, hol, hol2, hll, hll2, hb⟩
  clear hr
  have hc1 := TO_capi hol
  have hc2 := TO_capi hol2
  have R1 := hide hol.reads
  have R2 := hide hol2.reads
  have HB := hide hb
  clear hol hol2 hb
  have CI := hide (fun (V : World) (h1 : TL V A L.length L) (h2 : TL V A2 M.length M) => CommonItems_i V A A2 L.length M.length c1 c2 L M h1 h2 (by omega) (by omega))
  have CS := hide (fun (V : World) (h1 : TL V A L.length L) (h2 : TL V A2 M.length M) => CommonItems_s V A A2 L.length M.length c1 c2 L M h1 h2 (by omega) (by omega))
  obtain ⟨z, hz⟩ : ∃ z, z = ciO L M := ⟨_, rfl⟩
  rcases (by omega : z < 0 ∨ 0 ≤ z) with h0 | h0
  · rw [← hz] at CI CS
    clear hz
    have h0' : ¬ (0 : Int) ≤ z := by omega
    go_wp2_with fail
    (with_reducible refine (CI.out _ R1.out R2.out).mono ?_)
    rintro e u1 ⟨rfl, hb1⟩
    have B1 := hide (bl_call hb1 HB.out)
    have S1 := hide (R1.out.below hb1)
    have S2 := hide (R2.out.below hb1)
    clear hb1
    go_wp2_with fail
    (with_reducible refine (CS.out _ S1.out S2.out).mono ?_)
    rintro e u2 ⟨rfl, hb2⟩
    have B2 := hide (bl_call hb2 B1.out)
    have S1 := hide (S1.out.below hb2)
    have S2 := hide (S2.out.below hb2)
    clear hb2
    go_wp2_with fail
    (with_reducible refine (CS.out _ S1.out S2.out).mono ?_)
    rintro e u3 ⟨rfl, hb3⟩
    have zz : (z == z) = true := by simp
    go_wp2
    go_ret
    exact ⟨rfl, bl_call hb3 B2.out⟩
  · obtain ⟨k, rfl⟩ := Int.eq_ofNat_of_zero_le h0
    obtain ⟨o1, o2, hk⟩ := ci_le hz.symm
    obtain ⟨hk1, hk2⟩ := kp_le L M
    have htk := kp_take L M
    rw [← hk] at hk1 hk2 htk
    have CBA := hide (fun (V : World) (h1 : TL V A L.length L) (h2 : TL V A2 M.length M) => CommonItems_i V A2 A M.length L.length c2 c1 M L h2 h1 (by omega) (by omega))
    have CAA := hide (fun (V : World) (h1 : TL V A L.length L) => CommonItems_i V A A L.length L.length c1 c1 L L h1 h1 (by omega) (by omega))
    have HEQ := hide (fun (V : World) (h1 : TL V A L.length L) (h2 : TL V A2 M.length M) => eqItems_l V A A2 k k c1 c2 (L.take k) (M.take k) (h1.takei hk1) (h2.takei hk2) (by omega) (by omega))
    rw [ciO_yes o2 o1, kp_comm M L, ← hk] at CBA
    rw [ciO_yes o1 o1, kp_self L] at CAA
    rw [decide_eq_true htk] at HEQ
    rw [← hz] at CI CS
    have T1 := slice_toi A L.length c1 k (by omega)
    have T2 := slice_toi A2 M.length c2 k (by omega)
    have kk : ((k : Int) == (k : Int)) = true := by simp
    have ll : ((L.length : Int) == (L.length : Int)) = true := by simp
    clear hz o1 o2 hk htk
    go_wp2_with fail
    (with_reducible refine (CI.out _ R1.out R2.out).mono ?_)
    rintro e u1 ⟨rfl, hb1⟩
    have B1 := hide (bl_call hb1 HB.out)
    have S1 := hide (R1.out.below hb1)
    have S2 := hide (R2.out.below hb1)
    clear hb1
    go_wp2_with fail
    (with_reducible refine (CS.out _ S1.out S2.out).mono ?_)
    rintro e u2 ⟨rfl, hb2⟩
    have B2 := hide (bl_call hb2 B1.out)
    have S1 := hide (S1.out.below hb2)
    have S2 := hide (S2.out.below hb2)
    clear hb2 CI CS
    have le1 : decide ((k : Int) ≤ (L.length : Int)) = true := decide_eq_true (by omega)
    have le2 : decide ((k : Int) ≤ (M.length : Int)) = true := decide_eq_true (by omega)
    go_wp2_with fail
    go_region_held3 (fun _ : World => True) (trivial) (first | (go_at_call 54; (with_reducible refine (CBA.out _ (TL.drew S1.out) (TL.drew S2.out)).mono ?_); rintro e u3 ⟨rfl, hb3⟩; (with_reducible have hb3 := bl_undrew hb3); have S1 := hide (S1.out.below hb3); have S2 := hide (S2.out.below hb3); have B2 := hide (bl_call hb3 B2.out); clear hb3) | (go_at_call 54; (with_reducible refine (CAA.out _ S1.out).mono ?_); rintro e u4 ⟨rfl, hb4⟩; have S1 := hide (S1.out.below hb4); have S2 := hide (S2.out.below hb4); have B2 := hide (bl_call hb4 B2.out); clear hb4) | (go_at_call 56; (with_reducible refine (HEQ.out _ S1.out S2.out).mono ?_); rintro e u5 ⟨rfl, j5, rfl⟩))
    all_goals
      go_wp2
      go_ret
      exact ⟨rfl, bl_drewN B2.out _⟩
set_option maxRecDepth 100000 in
theorem lifted_FnCommonItems (os : Os) (started : os.Started) (H : Type) (enc : TypeId × Value → H) :
    ReturnsInHanded {} Try.checked os 18 .any (Rows.fnCommonItemsSpec.pre6 enc Try.prog Try.f18 Rows.fnCommonItemsRow.domain false) (Rows.fnCommonItemsSpec.post enc Try.prog Try.f18 false true false false) := by
  refine returnsInHanded_of_change (C := Try.checked) own_knob started (by kernel_rfl) Try.func18
    (ChangeSpec.witness6 (enc := enc) (C := Try.checked) false ⟨#[], #[.slice none 0 0], []⟩ 8 (by kernel_rfl) (by kernel_rfl) (by kernel_rfl) (by kernel_rfl)) ?_
  intro W base args ds gs before hval0 hW hcnd _
  have hval : ∀ (j : Nat) t v, Try.f18.params[j]? = some t → args[j]? = some v → Value.okWide Try.prog W .any base t v := hval0
  have hW' := hW
  obtain ⟨p, q, hA0, hV, rfl, hfz, hnd⟩ := hW
  have hA : DataW.TrodAll enc Try.prog W 0 (fun _ => true) true Try.f18.params.toList args.toList ds p := hA0
  rw [Try.params18] at hA hval
  obtain ⟨v0, vs0, d0, ds0, p0, q0, hargs, rfl, rfl, zh0, r0⟩ := trodAll_cons hA
  obtain ⟨rfl, rfl, rfl⟩ := trodAll_nil r0
  obtain rfl : args = #[v0] := by cases args; simp_all
  obtain ⟨rfl, rfl⟩ := trodVars_none hV
  have zk0 := zh0
  have zl0 : ∀ x ∈ p0, x.block < W.heap.size := by obtain ⟨m, hm⟩ := zk0; exact DataW.trod_lt m _ _ _ hm
  clear hA0 hval0
  obtain ⟨a_code, n_code, c_code, rfl⟩ := okWide_slice Try.underlying47 (hval 0 47 v0 rfl rfl)
  obtain ⟨code, w_code⟩ := isRow_of Try.underlying47 Try.underlying5 (by kernel_rfl) zh0
  refine (walk_FnCommonItems a_code n_code c_code code W w_code).mono fun e W' ⟨he, bel⟩ => ?_
  subst he
  exact ⟨_, rfl, _, _, _, [], _, [], hW', trodAll_mk1 (shut_bool Try.underlying4 _), (trodAll_cons_mk (Below.trod laid_out (by kernel_rfl) (of_decide_eq_true (by kernel_rfl)) zk0 bel zl0) trodAll_mk0), rfl, bel.frame _, fun h => by cases h⟩

/-- The statement. -/
theorem FnCommonItems_holds : Rows.FnCommonItemsSaid :=
  OpenClaim.holds_of_wide 18 Try.f18 rfl rfl rfl rfl rfl rfl rfl ⟨rfl, rfl, rfl, rfl, rfl⟩ rfl rfl rfl rfl rfl (by kernel_rfl) Try.func18 (by unfold joinedFacts; rw [may_enter, lifts_final, make_cut]; kernel_rfl)
    (of_decide_eq_true (by kernel_rfl)) (by unfold Func.isWrapper; first | (rw [if_pos (by decide +kernel)]; kernel_rfl) | (rw [if_neg (by decide +kernel)]; exact ⟨rfl, rfl⟩))
    (fun os started H enc _ => lifted_FnCommonItems os started H enc)
end Go.Proofs.Ytmolkppdfbldnaa
