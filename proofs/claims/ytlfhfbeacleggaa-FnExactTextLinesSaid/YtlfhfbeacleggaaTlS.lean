/- TextLines in the model. -/
import Derived.Test.YtlfhfbeacleggaaTl
import Derived.Test.YtlfhfbeacleggaaRec3
import Derived.Test.YtlfhfbeacleggaaRecD
namespace Go.Proofs.Ytlfhfbeacleggaa
open Go.ChangeShapes Go.WideShapes Go.ChangeAt Go.RowKit
set_option linter.unusedVariables false
set_option linter.unusedSimpArgs false

set_option maxRecDepth 8000 in
set_option maxHeartbeats 4000000 in
theorem TextLines_s (w : World) (A : Option Addr) (n c : Nat) (l : List Int) (h : Int) (ha : IL w A n l) (hn : n ≤ 1048576) :
    Calls Try.prog 31 #[.slice A n c, .int .i64 h] w (RetG w (tlO l h)) := by
  obtain ⟨i0, hi0, jz0, jz1, jz2⟩ := info_parts ln_infoR
  obtain rfl : n = l.length := ha.1
  have HA := hide ha
  have HA1 := hide (fun (u : World) (hu : Below w.heap.size w u) => HA.out.below hu)
  have VP := hide (validParts_s (w.alloc (.cells #[] 46)) A l.length c l (ha.alloc _) (by omega))
  clear ha
  cases qo : okW l
  · have O := hide (tlO_no (l := l) (h := h) (by rw [qo]; rfl))
    rw [qo] at VP
    rw [O.out]
    go_enter Try.func31, Try.ntmps31
    go_wp2_with (go_at_call 87; refine (VP.out).mono ?_; rintro e w' ⟨rfl, rfl⟩)
    go_ret
    exact RetG.nil (bl_alloc (bl_refl _) _)
  rw [qo] at VP
  have ok := okW_iff.1 qo
  cases q1 : inB h 1 1000
  · have O := hide (tlO_no (l := l) (h := h) (by rw [q1]; simp))
    rw [O.out]
    clear ok
    go_enter Try.func31, Try.ntmps31
    go_wp2_with (first | (go_at_call 87; refine (VP.out).mono ?_; rintro e w' ⟨rfl, rfl⟩) | (go_at_call 75; refine (inRange_any _ _ _ _).mono ?_; rintro e w' ⟨rfl, rfl⟩))
    go_ret
    exact RetG.nil (bl_alloc (bl_refl _) _)
  have O := hide (tlO_yes (l := l) (h := h) (by rw [qo, q1]; rfl))
  rw [O.out]
  have HOK := hide ok
  have HF := hide (fun (i : Nat) (hi : i ≤ l.length) => fiL_le HOK.out hi)
  have HS := hide (fun (i : Nat) (hi : i < l.length) => fiL_succ HOK.out.1 hi)
  have HPN := hide (fun (i k : Nat) (hi : i < l.length) (hk : (k : Int) < ng l i) => pnT_at HOK.out.1 hi hk)
  have H0 := hide (TO.lit0 (w := w) (e := 46) (α := Gp) (Nat.le_refl _))
  have HL := hide (fun n => tlL_len (l := l) (h := h) (n := n))
  have HT := hide (fun n => tlL_succ (l := l) (h := h) (n := n))
  clear qo O ok
  go_enter Try.func31, Try.ntmps31
  go_wp2_with (first | (go_at_call 87; refine (VP.out).mono ?_; rintro e w' ⟨rfl, rfl⟩) | (go_at_call 75; refine (inRange_any _ _ _ _).mono ?_; rintro e w' ⟨rfl, rfl⟩))
  go_loopw [5, 6] (fun v i u => ∃ (p q : Nat) (A' : Option Addr) (cc : Nat), p ≤ l.length ∧ i = .int .i64 p ∧ q = fiL l p ∧ q ≤ 40 ∧ v = .slice A' q cc ∧ TO u 46 w.heap.size A' cc (tlL l h q) ∧ Below w.heap.size w u) (fun _ i _ => l.length - (intOf i).toNat)
  case atStart => exact ⟨0, 0, _, _, by omega, rfl, rfl, by omega, rfl, H0.out, bl_alloc (bl_refl _) _⟩
  case round =>
    obtain ⟨p, q, A', cc, hp, rfl, hq, hq40, rfl, hto, hbl⟩ := hrel
    have HQ := hide hq
    have HTO := hide hto
    have HBL := hide hbl
    have hzb := hbl.size
    clear hq hto hbl
    by_cases hlt : p < l.length
    · have hz0 := HOK.out.1 p hlt
      have hs := HS.out p hlt
      have hf := HF.out (p + 1) (by omega)
      rw [hs, ← HQ.out] at hf
      have PNK := hide (fun (k : Nat) (hk : (k : Int) < ng l p) => HPN.out p k hlt hk)
      rw [← HQ.out] at PNK
      have HSU := hide hs
      have HLA := hide (fun (u : World) (hu : Below w.heap.size w u) => ((HA1.out u hu).at_ hlt))
      obtain ⟨z, hz⟩ : ∃ z, z = ng l p := ⟨_, rfl⟩
      rw [← hz] at hz0 hf HSU PNK HLA
      clear hs hz
      obtain ⟨b, o, rfl, _, hc⟩ := HLA.out wr HBL.out
      go_wp2
      go_loopw [5, 7] (fun v k u => ∃ (m : Nat) (A2 : Option Addr) (c2 : Nat), (m : Int) ≤ z ∧ k = .int .i64 m ∧ v = .slice A2 (q + m) c2 ∧ TO u 46 w.heap.size A2 c2 (tlL l h (q + m)) ∧ Below w.heap.size w u) (fun _ k _ => z.toNat - (intOf k).toNat)
      case atStart => exact ⟨0, A', cc, by omega, rfl, rfl, HTO.out, HBL.out⟩
      case round =>
        obtain ⟨m, A2, c2, hm, rfl, rfl, hto2, hbl2⟩ := hrel
        have HTO2 := hide hto2
        have HBL2 := hide hbl2
        have hzb2 := hbl2.size
        clear hto2 hbl2
        obtain ⟨b', o', e', _, hc'⟩ := HLA.out wr HBL2.out
        injection e' with e'
        cases e'
        have HLk := hide (show q + m = (tlL l h (q + m)).length from (HL.out _).symm)
        have HTK := hide (HT.out (q + m))
        by_cases hmz : (m : Int) < z
        · have HP := hide (PNK.out m hmz)
          rw [HP.out] at HTK
          rcases (by omega : ((m : Int) = 0 ∧ 1 < z) ∨ ((m : Int) = 0 ∧ ¬ 1 < z) ∨ ¬ (m : Int) = 0) with c1 | c1 | c1
          · rcases (by omega : (m : Int) = z - 2 ∨ ¬ (m : Int) = z - 2) with d1 | d1
            · skip
              have g1 : ((m : Int) == 0) = true := beq_iff_eq.2 (by omega)
              have g2 : decide (1 < z) = true := decide_eq_true (by omega)
              have g3 : ((m : Int) == z - 2) = true := beq_iff_eq.2 (by omega)
              have HX := hide (show tlL l h (q + m + 1) = tlL l h (q + m) ++ [⟨h, 0, 250⟩] by rw [HTK.out]; unfold lnP; congr 3; (repeat' split) <;> omega)
              clear HTK HP c1 d1
              go_wp2_with (at_builtin; refine wpList_append_rec rfl (.tmp 55) (.tmp 57) _ rfl 46 i0 _ 24 Try.underlying35 hi0 jz0 jz1 jz2 rfl (by decide) w.heap.size A2 c2 (q + m) (tlL l h (q + m)) rfl (HLk.out) ((HTO2.out.below (by repeat' (first | exact bl_refl _ | refine bl_alloc ?_ _ | refine bl_set ?_ (by first | exact Nat.le_refl _ | (simp; done) | (simp; omega)) _))).alloc _) (wr.heap.size + 1) ⟨h, 0, 250⟩ rfl (ones3 _) (cells3_at (by simp)) (by omega) (by simp; omega) ?_; intro A' c' w' hol' hb' hg')
              go_roundw
              case rel => exact ⟨m + 1, A', c', by omega, by go_num, rfl, by rw [show q + (m + 1) = q + m + 1 by omega, HX.out]; exact hol', (bl_alloc (HBL2.out.trans ((show Below wr.heap.size wr _ from (by repeat' (first | exact bl_refl _ | refine bl_alloc ?_ _ | refine bl_set ?_ (by first | exact Nat.le_refl _ | (simp; done) | (simp; omega)) _))).mono hzb2)) _).trans hb'⟩
              case measure => simp [intOf]; omega
            · skip
              have g1 : ((m : Int) == 0) = true := beq_iff_eq.2 (by omega)
              have g2 : decide (1 < z) = true := decide_eq_true (by omega)
              have g3 : ((m : Int) == z - 2) = false := beq_eq_false_iff_ne.2 (by omega)
              have HX := hide (show tlL l h (q + m + 1) = tlL l h (q + m) ++ [⟨h, 0, 100⟩] by rw [HTK.out]; unfold lnP; congr 3; (repeat' split) <;> omega)
              clear HTK HP c1 d1
              go_wp2_with (at_builtin; refine wpList_append_rec rfl (.tmp 55) (.tmp 57) _ rfl 46 i0 _ 24 Try.underlying35 hi0 jz0 jz1 jz2 rfl (by decide) w.heap.size A2 c2 (q + m) (tlL l h (q + m)) rfl (HLk.out) ((HTO2.out.below (by repeat' (first | exact bl_refl _ | refine bl_alloc ?_ _ | refine bl_set ?_ (by first | exact Nat.le_refl _ | (simp; done) | (simp; omega)) _))).alloc _) (wr.heap.size + 1) ⟨h, 0, 100⟩ rfl (ones3 _) (cells3_at (by simp)) (by omega) (by simp; omega) ?_; intro A' c' w' hol' hb' hg')
              go_roundw
              case rel => exact ⟨m + 1, A', c', by omega, by go_num, rfl, by rw [show q + (m + 1) = q + m + 1 by omega, HX.out]; exact hol', (bl_alloc (HBL2.out.trans ((show Below wr.heap.size wr _ from (by repeat' (first | exact bl_refl _ | refine bl_alloc ?_ _ | refine bl_set ?_ (by first | exact Nat.le_refl _ | (simp; done) | (simp; omega)) _))).mono hzb2)) _).trans hb'⟩
              case measure => simp [intOf]; omega
          · skip
            have d1 : True := trivial
            have g1 : ((m : Int) == 0) = true := beq_iff_eq.2 (by omega)
            have g2 : decide (1 < z) = false := decide_eq_false (by omega)
            have g3 : ((m : Int) == z - 2) = false := beq_eq_false_iff_ne.2 (by omega)
            have HX := hide (show tlL l h (q + m + 1) = tlL l h (q + m) ++ [⟨h, 0, 0⟩] by rw [HTK.out]; unfold lnP; congr 3; (repeat' split) <;> omega)
            clear HTK HP c1 d1
            go_wp2_with (at_builtin; refine wpList_append_rec rfl (.tmp 55) (.tmp 57) _ rfl 46 i0 _ 24 Try.underlying35 hi0 jz0 jz1 jz2 rfl (by decide) w.heap.size A2 c2 (q + m) (tlL l h (q + m)) rfl (HLk.out) ((HTO2.out.below (by repeat' (first | exact bl_refl _ | refine bl_alloc ?_ _ | refine bl_set ?_ (by first | exact Nat.le_refl _ | (simp; done) | (simp; omega)) _))).alloc _) (wr.heap.size + 1) ⟨h, 0, 0⟩ rfl (ones3 _) (cells3_at (by simp)) (by omega) (by simp; omega) ?_; intro A' c' w' hol' hb' hg')
            go_roundw
            case rel => exact ⟨m + 1, A', c', by omega, by go_num, rfl, by rw [show q + (m + 1) = q + m + 1 by omega, HX.out]; exact hol', (bl_alloc (HBL2.out.trans ((show Below wr.heap.size wr _ from (by repeat' (first | exact bl_refl _ | refine bl_alloc ?_ _ | refine bl_set ?_ (by first | exact Nat.le_refl _ | (simp; done) | (simp; omega)) _))).mono hzb2)) _).trans hb'⟩
            case measure => simp [intOf]; omega
          · rcases (by omega : (m : Int) = z - 2 ∨ ¬ (m : Int) = z - 2) with d1 | d1
            · skip
              have g1 : ((m : Int) == 0) = false := beq_eq_false_iff_ne.2 (by omega)
              have g3 : ((m : Int) == z - 2) = true := beq_iff_eq.2 (by omega)
              have HX := hide (show tlL l h (q + m + 1) = tlL l h (q + m) ++ [⟨h, 0, 150⟩] by rw [HTK.out]; unfold lnP; congr 3; (repeat' split) <;> omega)
              clear HTK HP c1 d1
              go_wp2_with (at_builtin; refine wpList_append_rec rfl (.tmp 55) (.tmp 57) _ rfl 46 i0 _ 24 Try.underlying35 hi0 jz0 jz1 jz2 rfl (by decide) w.heap.size A2 c2 (q + m) (tlL l h (q + m)) rfl (HLk.out) ((HTO2.out.below (by repeat' (first | exact bl_refl _ | refine bl_alloc ?_ _ | refine bl_set ?_ (by first | exact Nat.le_refl _ | (simp; done) | (simp; omega)) _))).alloc _) (wr.heap.size + 1) ⟨h, 0, 150⟩ rfl (ones3 _) (cells3_at (by simp)) (by omega) (by simp; omega) ?_; intro A' c' w' hol' hb' hg')
              go_roundw
              case rel => exact ⟨m + 1, A', c', by omega, by go_num, rfl, by rw [show q + (m + 1) = q + m + 1 by omega, HX.out]; exact hol', (bl_alloc (HBL2.out.trans ((show Below wr.heap.size wr _ from (by repeat' (first | exact bl_refl _ | refine bl_alloc ?_ _ | refine bl_set ?_ (by first | exact Nat.le_refl _ | (simp; done) | (simp; omega)) _))).mono hzb2)) _).trans hb'⟩
              case measure => simp [intOf]; omega
            · skip
              have g1 : ((m : Int) == 0) = false := beq_eq_false_iff_ne.2 (by omega)
              have g3 : ((m : Int) == z - 2) = false := beq_eq_false_iff_ne.2 (by omega)
              have HX := hide (show tlL l h (q + m + 1) = tlL l h (q + m) ++ [⟨h, 0, 0⟩] by rw [HTK.out]; unfold lnP; congr 3; (repeat' split) <;> omega)
              clear HTK HP c1 d1
              go_wp2_with (at_builtin; refine wpList_append_rec rfl (.tmp 55) (.tmp 57) _ rfl 46 i0 _ 24 Try.underlying35 hi0 jz0 jz1 jz2 rfl (by decide) w.heap.size A2 c2 (q + m) (tlL l h (q + m)) rfl (HLk.out) ((HTO2.out.below (by repeat' (first | exact bl_refl _ | refine bl_alloc ?_ _ | refine bl_set ?_ (by first | exact Nat.le_refl _ | (simp; done) | (simp; omega)) _))).alloc _) (wr.heap.size + 1) ⟨h, 0, 0⟩ rfl (ones3 _) (cells3_at (by simp)) (by omega) (by simp; omega) ?_; intro A' c' w' hol' hb' hg')
              go_roundw
              case rel => exact ⟨m + 1, A', c', by omega, by go_num, rfl, by rw [show q + (m + 1) = q + m + 1 by omega, HX.out]; exact hol', (bl_alloc (HBL2.out.trans ((show Below wr.heap.size wr _ from (by repeat' (first | exact bl_refl _ | refine bl_alloc ?_ _ | refine bl_set ?_ (by first | exact Nat.le_refl _ | (simp; done) | (simp; omega)) _))).mono hzb2)) _).trans hb'⟩
              case measure => simp [intOf]; omega
        · obtain rfl : (m : Int) = z := by omega
          go_wp2
          go_roundw
          case rel => exact ⟨p + 1, q + m, A2, c2, by omega, by go_num, by rw [HSU.out, ← HQ.out]; omega, by omega, rfl, HTO2.out, HBL2.out⟩
          case measure => simp [intOf]; omega
    · obtain rfl : p = l.length := by omega
      have HLq := hide (HL.out q)
      go_wp2
      go_ret
      exact ⟨A', cc, by rw [← HQ.out, HLq.out]; rfl, by rw [← HQ.out]; exact HTO.out, HBL.out⟩
end Go.Proofs.Ytlfhfbeacleggaa
