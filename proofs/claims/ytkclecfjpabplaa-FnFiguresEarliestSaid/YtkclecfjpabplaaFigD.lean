/- TotalDelay, in the program and in its model. -/
import Derived.Test.YtkclecfjpabplaaFigC
namespace Go.Proofs.Ytkclecfjpabplaa
open Go.ChangeShapes Go.WideShapes Go.ChangeAt Go.RowKit
set_option linter.unusedVariables false
open Classical

noncomputable def tdV (F : List Du) (sp l : List Int) : Int := if ckV F sp l then dl F l F.length else -1
theorem tdV_no {F : List Du} {sp l : List Int} (h : ckV F sp l = false) : tdV F sp l = -1 := by simp [tdV, h]
theorem tdV_yes {F : List Du} {sp l : List Int} (h : ckV F sp l = true) : tdV F sp l = dl F l F.length := by simp [tdV, h]
theorem dl_bd2 {F : List Du} {sp l : List Int} {k : Nat} (h : CTo F sp l k) (h2 : ∀ i, i < k → 0 ≤ (tg F i).b) (hs : sp.length ≤ 12) : 0 ≤ dl F l k ∧ dl F l k ≤ 12 * (k : Int) := by
  have h1 := dl_bd h h2
  have : (sp.length : Int) * (k : Int) ≤ 12 * (k : Int) := Int.mul_le_mul_of_nonneg_right (by omega) (by omega)
  omega

set_option maxHeartbeats 1000000 in
theorem TotalDelay_i (w : World) (A B C : Option Addr) (c d k : Nat) (F : List Du) (sp l : List Int) (hf : TL w A F.length F) (hs : IL w B sp.length sp) (hl : IL w C l.length l) (hm : F.length ≤ 4611686018427387904) (hn : sp.length ≤ 4611686018427387904) (ho : l.length ≤ 4611686018427387904) :
    Calls Try.prog 35 #[.slice A F.length c, .slice B sp.length d, .slice C l.length k] w fun e w' => e = .returned (.int .i64 (tdV F sp l)) ∧ Below w.heap.size w w' := by
  have HF := hide hf
  have HL := hide hl
  have CK := CheckFigures_i w A B C c d k F sp l hf hs hl hm hn ho
  clear hf hs hl
  cases q : ckV F sp l
  · rw [q] at CK
    have HCK := hide CK
    have E := hide (tdV_no q)
    clear CK q
    go_enter Try.func35, Try.ntmps35
    go_wp2_with fail
    (with_reducible refine HCK.out.mono ?_)
    rintro e u1 ⟨rfl, hb⟩
    have HB := hide hb
    clear hb
    go_wp2
    go_ret
    exact ⟨int_ret E.out.symm, HB.out⟩
  · rw [q] at CK
    have HCK := hide CK
    have E := hide (tdV_yes q)
    obtain ⟨e1, e2, e3, e4⟩ := ckV_yes.1 q
    obtain ⟨f1, f2⟩ := fgok_iff.1 e1
    obtain ⟨⟨_, s1⟩, _⟩ := okLen_iff.1 e2
    have DB := hide (fun (p : Nat) (h : p ≤ F.length) => dl_bd2 (k := p) (fun i hi => e4 i (by omega)) (fun i hi => (f2 i (by omega)).2.1.1) (by omega : sp.length ≤ 12))
    have F2 := hide f2
    have C4 := hide e4
    have E3 := hide e3
    have sl1 : sp.length ≤ 12 := by omega
    have hl10 : l.length ≤ 10 := by omega
    clear CK q e1 e2 e3 e4 f2 s1
    go_enter Try.func35, Try.ntmps35
    go_wp2_with fail
    (with_reducible refine HCK.out.mono ?_)
    rintro e u1 ⟨rfl, hb⟩
    have HB := hide hb
    have HF1 := hide (HF.out.below hb)
    have HL1 := hide (HL.out.below hb)
    clear hb
    go_wp2
    go_loop [7, 17] (fun v i => ∃ p : Nat, p ≤ l.length ∧ v = .int .i64 (dl F l p) ∧ i = .int .i64 p) (fun _ i => l.length - (intOf i).toNat)
    case atStart => exact ⟨0, by omega, rfl, rfl⟩
    case round =>
      obtain ⟨p, hp, rfl, rfl⟩ := hrel
      obtain ⟨d0, d1⟩ := DB.out p (by have := E3.out; omega)
      obtain ⟨y, hy⟩ : ∃ y, y = dl F l p := ⟨_, rfl⟩
      rw [← hy] at d0 d1
      rw [← hy]
      have HY := hide hy
      have d2 : y ≤ 120 := by omega
      clear hy d1
      by_cases hlt : p < l.length
      · have hpf : p < F.length := by have := E3.out; omega
        obtain ⟨b, o, hA, hb0, c0, c1⟩ := HF1.out.at2 hpf
        obtain ⟨b', o', hA', hb0', e0⟩ := HL1.out.at_ hlt
        subst hA
        subst hA'
        obtain ⟨Y0, Y1⟩ := (F2.out p hpf).2.1
        obtain ⟨⟨z0, z1⟩, _⟩ := C4.out p hpf
        obtain ⟨Y, hY⟩ : ∃ Y, Y = (tg F p).b := ⟨_, rfl⟩
        obtain ⟨z, hz⟩ : ∃ z, z = ng l p := ⟨_, rfl⟩
        rw [← hY] at c1 Y0 Y1 z0
        rw [← hz] at e0 z0 z1
        have zy : Y ≤ z := by omega
        have N : Hid (dl F l (p + 1) = y + (z - Y)) := hide (by rw [hY, hz, HY.out]; rfl)
        clear hY hz z0
        go_wp2
        go_round
        case rel => exact ⟨p + 1, by omega, by rw [N.out], by go_num⟩
        case measure => simp [intOf]; omega
      · have E2 := hide (E.out.trans (show dl F l F.length = y by rw [HY.out, show F.length = p from by have := E3.out; omega]))
        go_wp2
        go_ret
        exact ⟨int_ret E2.out.symm, HB.out⟩

set_option maxHeartbeats 1000000 in
theorem TotalDelay_s (w : World) (A B C : Option Addr) (c d k : Nat) (F : List Du) (sp l : List Int) (hf : TL w A F.length F) (hs : IL w B sp.length sp) (hsn : B = none → d = 0) (hl : IL w C l.length l) (hm : F.length ≤ 4611686018427387904) (hn : sp.length ≤ 4611686018427387904) (ho : l.length ≤ 4611686018427387904) :
    Calls Try.prog 36 #[.slice A F.length c, .slice B sp.length d, .slice C l.length k] w fun e w' => e = .returned (.int .i64 (tdV F sp l)) ∧ Below w.heap.size w w' := by
  have HF := hide hf
  have HL := hide hl
  have CK := CheckFigures_s w A B C c d k F sp l hf hs hsn hl hm hn ho
  clear hf hs hl hsn
  cases q : ckV F sp l
  · rw [q] at CK
    have HCK := hide CK
    have E := hide (tdV_no q)
    clear CK q
    go_enter Try.func36, Try.ntmps36
    go_wp2_with fail
    (with_reducible refine HCK.out.mono ?_)
    rintro e u1 ⟨rfl, hb⟩
    have HB := hide hb
    clear hb
    go_wp2
    go_ret
    exact ⟨int_ret E.out.symm, HB.out⟩
  · rw [q] at CK
    have HCK := hide CK
    have E := hide (tdV_yes q)
    obtain ⟨e1, e2, e3, e4⟩ := ckV_yes.1 q
    obtain ⟨f1, f2⟩ := fgok_iff.1 e1
    obtain ⟨⟨_, s1⟩, _⟩ := okLen_iff.1 e2
    have DB := hide (fun (p : Nat) (h : p ≤ F.length) => dl_bd2 (k := p) (fun i hi => e4 i (by omega)) (fun i hi => (f2 i (by omega)).2.1.1) (by omega : sp.length ≤ 12))
    have F2 := hide f2
    have C4 := hide e4
    have E3 := hide e3
    have sl1 : sp.length ≤ 12 := by omega
    have hl10 : l.length ≤ 10 := by omega
    clear CK q e1 e2 e3 e4 f2 s1
    go_enter Try.func36, Try.ntmps36
    go_wp2_with fail
    (with_reducible refine HCK.out.mono ?_)
    rintro e u1 ⟨rfl, hb⟩
    have HB := hide hb
    have HF1 := hide (HF.out.below hb)
    have HL1 := hide (HL.out.below hb)
    clear hb
    go_wp2
    go_loopw [7, 8] (fun v i u => ∃ p j : Nat, p ≤ l.length ∧ v = .int .i64 (dl F l p) ∧ i = .int .i64 p ∧ u = u1.drewN j) (fun _ i _ => l.length - (intOf i).toNat)
    case atStart => exact ⟨0, 0, by omega, rfl, rfl, rfl⟩
    case round =>
      obtain ⟨p, j, hp, rfl, rfl, rfl⟩ := hrel
      obtain ⟨d0, d1⟩ := DB.out p (by have := E3.out; omega)
      obtain ⟨y, hy⟩ : ∃ y, y = dl F l p := ⟨_, rfl⟩
      rw [← hy] at d0 d1
      rw [← hy]
      have HY := hide hy
      have d2 : y ≤ 120 := by omega
      clear hy d1
      by_cases hlt : p < l.length
      · have hpf : p < F.length := by have := E3.out; omega
        obtain ⟨b, o, hA, hb0, c0, c1⟩ := HF1.out.at2 hpf
        obtain ⟨b', o', hA', hb0', e0⟩ := HL1.out.at_ hlt
        subst hA
        subst hA'
        obtain ⟨Y0, Y1⟩ := (F2.out p hpf).2.1
        obtain ⟨⟨z0, z1⟩, _⟩ := C4.out p hpf
        obtain ⟨Y, hY⟩ : ∃ Y, Y = (tg F p).b := ⟨_, rfl⟩
        obtain ⟨z, hz⟩ : ∃ z, z = ng l p := ⟨_, rfl⟩
        rw [← hY] at c1 Y0 Y1 z0
        rw [← hz] at e0 z0 z1
        have zy : Y ≤ z := by omega
        have N : Hid (dl F l (p + 1) = y + z - Y) := hide (by
          have : dl F l (p + 1) = dl F l p + (ng l p - (tg F p).b) := rfl
          rw [this, ← hY, ← hz, ← HY.out]; omega)
        clear hY hz z0
        go_wp2
        go_quiet (fail)
        go_wp2
        go_roundw
        case rel => exact ⟨p + 1, _, by omega, by rw [N.out], by go_num, rfl⟩
        case measure => simp [intOf]; omega
      · have E2 := hide (E.out.trans (show dl F l F.length = y by rw [HY.out, show F.length = p from by have := E3.out; omega]))
        go_wp2
        go_ret
        exact ⟨int_ret E2.out.symm, bl_drewN HB.out _⟩
end Go.Proofs.Ytkclecfjpabplaa
