/- The parts of a paragraph, and whether it is valid. -/
import Derived.Test.YtafddofajfcffaaPartOf
namespace Go.Proofs.Ytafddofajfcffaa
open Go.ChangeShapes Go.WideShapes Go.ChangeAt Go.RowKit
set_option linter.unusedVariables false

theorem part_info : (Try.prog.info? 132).map (fun i => (i.zero, i.size, i.bytes)) = some (some .nilIface, 1, 16) := by kernel_rfl
theorem part_iface (x : It) : ∃ T y, part x = .iface T y := by
  unfold part
  split
  · exact ⟨_, _, rfl⟩
  · split
    · exact ⟨_, _, rfl⟩
    · exact ⟨_, _, rfl⟩
def KOk (x : It) : Prop := x.k = 1 ∨ x.k = 2 ∨ x.k = 3
theorem KOk.of {x : It} (h : itOk x = true) : KOk x := by
  rcases iok_iff.1 h with h | h | h
  · exact .inl h.1
  · exact .inr (.inl h.1)
  · exact .inr (.inr h.1)
set_option maxRecDepth 20000 in
theorem isForced_i (x : It) (hx : KOk x) (w : World) :
    Calls Try.prog 108 #[part x] w fun e w' => e = .returned (.bool (decide (x.k = 3 ∧ x.p = -1000))) ∧ Below w.heap.size w w' := by
  have t1 : ∀ (a : Int) (W : World), (Instr.typeAssert (.iface 175 (bpv a)) 132 164 true).run Try.prog W = .ok (.tuple #[ppv 0 0 false, .bool false]) W := fun _ _ => by kernel_rfl
  have t2 : ∀ (a b c : Int) (W : World), (Instr.typeAssert (.iface 182 (gpv a b c)) 132 164 true).run Try.prog W = .ok (.tuple #[ppv 0 0 false, .bool false]) W := fun _ _ _ _ => by kernel_rfl
  have t3 : ∀ (a p : Int) (f : Bool) (W : World), (Instr.typeAssert (.iface 164 (ppv a p f)) 132 164 true).run Try.prog W = .ok (.tuple #[ppv a p f, .bool true]) W := fun _ _ _ _ => by kernel_rfl
  obtain ⟨k, b, c, d, e, f⟩ := x
  rcases hx with h | h | h
  · simp only at h
    subst h
    rw [show part ⟨1, b, c, d, e, f⟩ = .iface 175 (bpv b) from by simp [part], show decide ((1 : Int) = 3 ∧ e = -1000) = false from by simp]
    go_enter Try.func108, Try.ntmps108
    go_wp2
    go_ret
    refine ⟨rfl, ?_⟩
    (repeat' (first | with_reducible exact bl_refl _ | with_reducible assumption | with_reducible refine bl_alloc ?_ _ | with_reducible refine bl_set ?_ ?_ _ | with_reducible refine bl_drewN ?_ _ | with_reducible refine bl_drew ?_ | with_reducible refine bl_call (by assumption) ?_))
  · simp only at h
    subst h
    rw [show part ⟨2, b, c, d, e, f⟩ = .iface 182 (gpv b c d) from by simp [part], show decide ((2 : Int) = 3 ∧ e = -1000) = false from by simp]
    go_enter Try.func108, Try.ntmps108
    go_wp2
    go_ret
    refine ⟨rfl, ?_⟩
    (repeat' (first | with_reducible exact bl_refl _ | with_reducible assumption | with_reducible refine bl_alloc ?_ _ | with_reducible refine bl_set ?_ ?_ _ | with_reducible refine bl_drewN ?_ _ | with_reducible refine bl_drew ?_ | with_reducible refine bl_call (by assumption) ?_))
  · simp only at h
    subst h
    rw [show part ⟨3, b, c, d, e, f⟩ = .iface 164 (ppv b e f) from by simp [part]]
    rcases (by omega : e ≠ -1000 ∨ e = -1000) with h | rfl
    · rw [show decide ((3 : Int) = 3 ∧ e = -1000) = false from by simp [h]]
      have g : (e == -1000) = false := beq_eq_false_iff_ne.2 h
      clear h
      go_enter Try.func108, Try.ntmps108
      go_wp2
      go_ret
      refine ⟨rfl, ?_⟩
      (repeat' (first | with_reducible exact bl_refl _ | with_reducible assumption | with_reducible refine bl_alloc ?_ _ | with_reducible refine bl_set ?_ ?_ _ | with_reducible refine bl_drewN ?_ _ | with_reducible refine bl_drew ?_ | with_reducible refine bl_call (by assumption) ?_))
    · rw [show decide ((3 : Int) = 3 ∧ (-1000 : Int) = -1000) = true from by simp]
      go_enter Try.func108, Try.ntmps108
      go_wp2
      go_ret
      refine ⟨rfl, ?_⟩
      (repeat' (first | with_reducible exact bl_refl _ | with_reducible assumption | with_reducible refine bl_alloc ?_ _ | with_reducible refine bl_set ?_ ?_ _ | with_reducible refine bl_drewN ?_ _ | with_reducible refine bl_drew ?_ | with_reducible refine bl_call (by assumption) ?_))

set_option maxRecDepth 20000 in
set_option maxHeartbeats 2000000 in
theorem partsOf_i (w : World) (A : Option Addr) (n c : Nat) (L : List It) (h : TL w A n L) (hn : n ≤ 4611686018427387904) :
    Calls Try.prog 107 #[.slice A n c] w fun e w' => ∃ v, e = .returned (.tuple #[v, .bool (isOk L)]) ∧ (isOk L = true → ∃ A' c', v = .slice A' L.length c' ∧ w'.ownsRow w.heap.size 132 1 (.slice A' L.length c') L.length (L.map part)) ∧ Below w.heap.size w w' := by
  obtain rfl : n = L.length := h.1
  have HI := hide h
  clear h
  cases q : inB L.length 1 60
  · have E := isOk_no (L := L) (fun x => by have := x.2.1; rw [inB_yes (by omega) (by omega)] at q; cases q)
    rw [E]
    clear E
    go_enter Try.func107, Try.ntmps107
    go_wp2_with (go_at_call 119; refine (within_any _ _ _ _).mono ?_; rintro e w' ⟨rfl, rfl⟩)
    go_ret2
    exact ⟨_, rfl, fun x => (by cases x), bl_refl _⟩
  have hr := inB_iff.1 q
  obtain ⟨i0, hi0, hz0, hz1, hz2⟩ := info_parts part_info
  go_enter Try.func107, Try.ntmps107
  go_wp2_with (first | (go_at_call 119; refine (within_any _ _ _ _).mono ?_; rintro e w' ⟨rfl, rfl⟩) | (refine wpList_make_full _ rfl _ _ _ rfl w.heap.size 132 i0 _ 1 Try.underlying89 hi0 hz0 hz1 .i64 .i64 _ _ L.length rfl rfl rfl rfl (by rw [hz2]; omega) (by unfold maxLen; omega) (Nat.le_refl _) ?_; intro w1 hown hgr))
  obtain ⟨M, hM⟩ : ∃ M, M = (madeCells (Value.nilIface).cells (L.length * 1)).toList := ⟨_, rfl⟩
  rw [← hM] at hown
  clear hM
  have hMl : M.length = (L.map part).length := by rw [List.length_map, ← Nat.mul_one L.length, ← hown.1]
  have HM := hide hMl
  have HFL := hide (show (L.map part).length = L.length by simp)
  have H0 : Hid (w1.ownsRow w.heap.size 132 1 (.slice (some ⟨w.heap.size, 0, none⟩) L.length L.length) L.length (vmix (L.map part) M 0)) := hide (by rw [vmix_zero]; exact hown)
  have hb1 := below_new hgr
  have HB1 := hide hb1
  have hz1' : w.heap.size < w1.heap.size := by
    obtain ⟨_, _, _, h, _⟩ := own_form hown (by omega)
    have := own_form hown (by omega)
    obtain ⟨g, he, _, hlt, _⟩ := this
    injection he with he
    injection he with he
    omega
  clear hown hgr hMl hb1
  go_wp2
  go_loopw [18] (fun i u => ∃ p : Nat, p ≤ L.length ∧ i = .int .i64 p ∧ OTo L p ∧ u.ownsRow w.heap.size 132 1 (.slice (some ⟨w.heap.size, 0, none⟩) L.length L.length) L.length (vmix (L.map part) M p) ∧ Below w.heap.size w u) (fun i _ => L.length - (intOf i).toNat)
  case atStart => exact ⟨0, by omega, rfl, OTo.zero _, H0.out, HB1.out⟩
  case round =>
    obtain ⟨p, hp, rfl, hpo, hol, hbl⟩ := hrel
    have HP := hide hpo
    have HB := hide hbl
    have HO := hide hol
    clear hpo
    by_cases hlt : p < L.length
    · obtain ⟨b, o, rfl, hb0, c0, c1, c2, c3, c4, c5⟩ := (HI.out.below hbl).at6 hlt
      obtain ⟨x, hx⟩ : ∃ x, x = tg L p := ⟨_, rfl⟩
      rw [← hx] at c0 c1 c2 c3 c4 c5
      have HX := hide hx
      clear hx hol hbl
      obtain ⟨xk, xb, xc, xd, xe, xf⟩ := x
      simp only at c0 c1 c2 c3 c4 c5
      obtain ⟨ok, hok⟩ : ∃ ok, ok = iok xk xb xc xd xe xf := ⟨_, rfl⟩
      have PO := fun (u : World) => partOf_any xk xb xc xd xe xf u
      rw [← hok] at PO
      have HPO := hide PO
      have HOK := hide hok
      clear PO hok
      go_wp2_with fail
      (with_reducible refine (HPO.out _).mono ?_)
      rintro e u1 ⟨v, rfl, hv, hb⟩
      have HB2 := hide (bl_call hb (bl_alloc HB.out _))
      have ho1 := own_below HO.out (bl_call hb (bl_alloc (bl_refl _) _))
      cases ok
      · have E := isOk_no (L := L) (fun z => by have := z.1 p hlt; rw [← HX.out] at this; have h2 := HOK.out; unfold itOk at this; rw [this] at h2; cases h2)
        have HE := hide E
        clear E hv hb ho1
        go_wp2
        go_ret2
        exact ⟨_, by rw [HE.out]; rfl, fun z => (by rw [HE.out] at z; cases z), HB2.out⟩
      · have hvp := hv rfl
        obtain ⟨vt, vy, hvi⟩ := part_iface ⟨xk, xb, xc, xd, xe, xf⟩
        rw [hvi] at hvp
        subst hvp
        have NX := hide (HP.out.step (by rw [← HX.out]; exact HOK.out.symm))
        obtain ⟨_, d0⟩ := own_cell (j := p) ho1 (by omega)
        have f0 := World.ownsRow.frozenAt ho1 p
        have hpF : (L.map part)[p]? = some (.iface vt vy) := by rw [List.getElem?_map, tg_get hlt, ← HX.out, Option.map_some, hvi]
        have M1 : Hid ((u1.setCell ⟨w.heap.size, p, none⟩ (.iface vt vy)).ownsRow w.heap.size 132 1 (.slice (some ⟨w.heap.size, 0, none⟩) L.length L.length) L.length (vmix (L.map part) M (p + 1))) := hide (by
          have := (World.ownsRow.stored ho1 p (.iface vt vy)).1
          rwa [vmix_put HM.out hpF] at this)
        clear hv hvi hb ho1 hpF
        go_wp2
        go_roundw
        case rel => exact ⟨p + 1, by omega, by go_num, NX.out, M1.out, bl_set HB2.out (Nat.le_refl _) _⟩
        case measure => simp [intOf]; omega
    · have hpe : p = L.length := by omega
      have R1 : wr.ownsRow w.heap.size 132 1 (.slice (some ⟨w.heap.size, 0, none⟩) L.length L.length) L.length (L.map part) := by
        rw [hpe, vmix_all HM.out HFL.out] at hol
        exact hol
      have ALL : OTo L L.length := by rw [← hpe]; exact HP.out
      obtain ⟨m, hm⟩ : ∃ m, m = L.length - 1 := ⟨_, rfl⟩
      have em : (L.length : Int) - 1 = (m : Int) := by omega
      have hml : m < L.length := by omega
      have d0 := World.ownsRow.cellAt R1 m (by omega)
      rw [List.getElem?_map, tg_get hml, Option.map_some] at d0
      have KO := KOk.of (ALL m hml)
      have IF := fun (u : World) => isForced_i (tg L m) KO u
      obtain ⟨pv, hpv⟩ : ∃ pv, pv = part (tg L m) := ⟨_, rfl⟩
      rw [← hpv] at d0 IF
      obtain ⟨fb, hfb⟩ : ∃ fb, fb = decide ((tg L m).k = 3 ∧ (tg L m).p = -1000) := ⟨_, rfl⟩
      rw [← hfb] at IF
      have EQ : isOk L = fb := by
        rw [hfb, Bool.eq_iff_iff, isOk_iff, decide_eq_true_iff, hm]
        exact ⟨fun z => z.2.2, fun z => ⟨ALL, by omega, z.1, z.2⟩⟩
      have HEQ := hide EQ
      have HIF := hide IF
      have HR := hide R1
      clear ALL KO IF hpv hfb EQ R1 hol hpe hm
      go_wp2_with fail
      (with_reducible refine (HIF.out _).mono ?_)
      rintro e u1 ⟨rfl, hb⟩
      have HR2 := hide (own_below HR.out hb)
      have HB2 := hide (bl_call hb HB.out)
      clear hb
      cases fb
      · go_wp2
        go_ret2
        exact ⟨_, by rw [HEQ.out]; rfl, fun z => (by rw [HEQ.out] at z; cases z), HB2.out⟩
      · go_wp2
        go_ret2
        exact ⟨_, by rw [HEQ.out]; rfl, fun z => ⟨_, _, rfl, HR2.out⟩, HB2.out⟩

end Go.Proofs.Ytafddofajfcffaa
