/- PlaceFigures, in the program and in its model. -/
import Derived.Test.YtkclecfjpabplaaFigM
import Derived.Test.YtkclecfjpabplaaAllW
import Derived.Test.YtkclecfjpabplaaInts
import Derived.Test.YtkclecfjpabplaaApp
import Derived.Test.YtkclecfjpabplaaSub
namespace Go.Proofs.Ytkclecfjpabplaa
open Go.ChangeShapes Go.WideShapes Go.ChangeAt Go.RowKit
set_option linter.unusedVariables false
open Classical
set_option maxRecDepth 4000

/-- Where figures are placed, if they can be. -/
noncomputable def plV (F : List Du) (sp : List Int) : Option (List Int) := if fgok F && okLen sp 0 12 0 10000 then pl F 0 sp else none
theorem plV_no {F : List Du} {sp : List Int} (h : (fgok F && okLen sp 0 12 0 10000) = false) : plV F sp = none := by simp only [plV, h]; rfl
theorem plV_yes {F : List Du} {sp : List Int} (h : (fgok F && okLen sp 0 12 0 10000) = true) : plV F sp = pl F 0 sp := by simp only [plV, h, if_true]
/-- What a function leaves that returns a list that it made, or none. -/
def RetO (w : World) (o : Option (List Int)) (e : Ending) (w' : World) : Prop := ∃ A c, e = .returned (.tuple #[.slice A (o.getD []).length c, .bool o.isSome]) ∧ OL w' 3 w.heap.size A c (o.getD []) ∧ Below w.heap.size w w'
theorem RetO.no {w w' : World} {o : Option (List Int)} (h : o = none) (hb : Below w.heap.size w w') : RetO w o (.returned (.tuple #[.slice none 0 0, .bool false])) w' := by
  subst h
  exact ⟨none, 0, rfl, OL.nil _ _ _, hb⟩
theorem RetO.yes {w w' : World} {o : Option (List Int)} {l : List Int} {A : Option Addr} {c q : Nat} (h : o = some l) (hq : q = l.length) (ho : OL w' 3 w.heap.size A c l) (hb : Below w.heap.size w w') : RetO w o (.returned (.tuple #[.slice A q c, .bool true])) w' := by
  subst h
  subst hq
  exact ⟨A, c, rfl, ho, hb⟩
def lenV : Value → Nat
  | .slice _ n _ => n
  | _ => 0

set_option maxHeartbeats 4000000 in
theorem PlaceFigures_i (w : World) (A B : Option Addr) (c d : Nat) (F : List Du) (sp : List Int) (hf : TL w A F.length F) (hc : F.length ≤ c) (hs : IL w B sp.length sp) (hm : F.length ≤ 4611686018427387904) (hn : sp.length ≤ 4611686018427387904) :
    Calls Try.prog 33 #[.slice A F.length c, .slice B sp.length d] w (RetO w (plV F sp)) := by
  obtain ⟨i0, hi0, jz0, jz1, jz2⟩ := info_parts int_info
  have HF := hide hf
  have HS := hide hs
  clear hf hs
  cases q1 : fgok F
  · have E := hide (plV_no (sp := sp) (by rw [q1]; rfl))
    go_enter Try.func33, Try.ntmps33
    go_wp2_with (go_at_call 72; (with_reducible refine (ValidFigures_i _ _ _ _ F HF.out (by omega)).mono ?_); rintro e w' ⟨rfl, hb⟩; have HB := hide hb; have HS1 := hide (HS.out.below hb); clear hb)
    go_ret2
    exact RetO.no E.out HB.out
  cases q2 : okLen sp 0 12 0 10000
  · have E := hide (plV_no (F := F) (by rw [q2, Bool.and_false]))
    go_enter Try.func33, Try.ntmps33
    go_wp2_with (first | (go_at_call 72; (with_reducible refine (ValidFigures_i _ _ _ _ F HF.out (by omega)).mono ?_); rintro e w' ⟨rfl, hb⟩; have HB := hide hb; have HS1 := hide (HS.out.below hb); clear hb) | (go_at_call 73; (with_reducible refine (validSpace_i _ _ _ _ sp HS1.out (by omega)).mono ?_); rintro e w' ⟨rfl, rfl⟩))
    go_ret2
    exact RetO.no E.out HB.out
  obtain ⟨f1, f2⟩ := fgok_iff.1 q1
  obtain ⟨⟨_, s1⟩, s2⟩ := okLen_iff.1 q2
  have s1' : sp.length ≤ 12 := by omega
  have E := hide (plV_yes (F := F) (sp := sp) (by rw [q1, q2]; rfl))
  have F2 := hide f2
  have S2 := hide s2
  obtain ⟨T, hT⟩ : ∃ T, T = pl F 0 sp := ⟨_, rfl⟩
  rw [← hT] at E
  have T0 : Hid (T = (pl (F.drop 0) 0 (sp.drop 0)).map ([] ++ ·)) := hide (by rw [hT, List.drop_zero, List.drop_zero]; cases pl F 0 sp <;> simp)
  clear f2 s2 s1 hT
  go_enter Try.func33, Try.ntmps33
  go_wp2_with (first | (go_at_call 72; (with_reducible refine (ValidFigures_i _ _ _ _ F HF.out (by omega)).mono ?_); rintro e w' ⟨rfl, hb⟩; have HB := hide hb; have HS1 := hide (HS.out.below hb); clear hb) | (go_at_call 73; (with_reducible refine (validSpace_i _ _ _ _ sp HS1.out (by omega)).mono ?_); rintro e w' ⟨rfl, rfl⟩))
  go_loopw [6, 7, 21] (fun o q i u => ∃ (p k m n : Nat) (L : List Int) (A' Aq : Option Addr) (c' cq : Nat), p ≤ sp.length ∧ k + m = F.length ∧ n = L.length ∧ n ≤ k ∧ o = .slice A' n c' ∧ q = .slice Aq m cq ∧ i = .int .i64 p ∧ m ≤ cq ∧ TL w Aq m (F.drop k) ∧ OL u 3 w.heap.size A' c' L ∧ T = (pl (F.drop k) p (sp.drop p)).map (L ++ ·) ∧ Below w.heap.size w u) (fun _ _ i _ => sp.length - (intOf i).toNat)
  case atStart => exact ⟨0, 0, F.length, 0, [], none, A, 0, c, by omega, by omega, rfl, by omega, rfl, rfl, rfl, hc, HF.out, OL.nil _ _ _, T0.out, HB.out⟩
  case round =>
    obtain ⟨p, k, m, n, L, A', Aq, c', cq, hp, hkm, hnl, hnk, rfl, rfl, rfl, hcq, htl, hol, htt, hbl⟩ := hrel
    have HNL := hide hnl
    have HTT := hide htt
    have HTL := hide htl
    have HOL := hide hol
    have HB1 := hide hbl
    clear hnl htt htl hol hbl HB HS1 T0
    by_cases hlt : p < sp.length
    · obtain ⟨b, o, hA, hb0, d0⟩ := HS.out.at_ hlt
      subst hA
      replace d0 := keep_cell HB1.out d0
      obtain ⟨r0, r1⟩ := S2.out p hlt
      have T1 := HTT.out
      rw [drop_ng hlt] at T1
      obtain ⟨R, hR⟩ : ∃ R, R = ng sp p := ⟨_, rfl⟩
      rw [← hR] at d0 r0 r1 T1
      have HT1 := hide T1
      clear hR T1 HTT
      go_wp2
      go_loopw [6, 7, 9] (fun o q r u => ∃ (k m n : Nat) (L : List Int) (A' Aq : Option Addr) (c' cq : Nat) (y : Int), k + m = F.length ∧ n = L.length ∧ n ≤ k ∧ o = .slice A' n c' ∧ q = .slice Aq m cq ∧ r = .int .i64 y ∧ (0 ≤ y ∧ y ≤ 10000) ∧ m ≤ cq ∧ TL w Aq m (F.drop k) ∧ OL u 3 w.heap.size A' c' L ∧ T = (pl (F.drop k) p (y :: sp.drop (p + 1))).map (L ++ ·) ∧ Below w.heap.size w u) (fun _ q _ _ => lenV q)
      case atStart => exact ⟨k, m, n, L, A', Aq, c', cq, R, hkm, HNL.out, hnk, rfl, rfl, rfl, ⟨r0, r1⟩, hcq, HTL.out, HOL.out, HT1.out, HB1.out⟩
      case round =>
        clear HNL HTL HOL HB1 HT1 hkm hnk hcq d0 r0 r1
        obtain ⟨k, m, n, L, A', Aq, c', cq, y, hkm, hnl, hnk, rfl, rfl, rfl, ⟨y0, y1⟩, hcq, htl, hol, htt, hbl⟩ := hrel
        have HNL := hide hnl
        have HTT := hide htt
        have HTL := hide htl
        have HOL := hide hol
        have HB1 := hide hbl
        clear hnl htt htl hol hbl
        rcases Nat.eq_zero_or_pos m with hm0 | hm0
        · have T2 : Hid (T = (pl (F.drop k) (p + 1) (sp.drop (p + 1))).map (L ++ ·)) := hide (by
            rw [HTT.out, List.drop_eq_nil_of_le (by omega)]; rfl)
          have g0 : decide ((0 : Int) < (m : Int)) = false := decide_eq_false (by omega)
          have g0' : decide (0 < m) = false := decide_eq_false (by omega)
          clear HTT
          go_wp2
          go_roundw
          case rel => exact ⟨p + 1, k, m, n, L, A', Aq, c', cq, by omega, hkm, HNL.out, hnk, rfl, rfl, by go_num, hcq, HTL.out, HOL.out, T2.out, HB1.out⟩
          case measure => simp [intOf]; omega
        · have hkf : k < F.length := by omega
          obtain ⟨b2, o2, hq, hb2, c0, c1⟩ := HTL.out.at2 hm0
          have e0 : tg (F.drop k) 0 = tg F k := by rw [drop_tgf hkf]; rfl
          rw [e0] at c0 c1
          subst hq
          replace c0 := keep_cell HB1.out c0
          replace c1 := keep_cell HB1.out c1
          rw [Nat.zero_mul, Nat.add_zero] at c0 c1
          have MV := hide (fun h => pl_move (f := tg F k) (F.drop (k + 1)) (q := p) (r := y) (sp.drop (p + 1)) h)
          have HR := hide (fun h1 h2 => pl_here (f := tg F k) (F.drop (k + 1)) (q := p) (r := y) (sp.drop (p + 1)) h1 h2)
          rw [← drop_tgf hkf] at MV HR
          obtain ⟨x0, x1⟩ := (F2.out k hkf).1
          obtain ⟨z0, z1⟩ := (F2.out k hkf).2.1
          obtain ⟨X, hX⟩ : ∃ X, X = (tg F k).a := ⟨_, rfl⟩
          obtain ⟨Y, hY⟩ : ∃ Y, Y = (tg F k).b := ⟨_, rfl⟩
          rw [← hX] at c0 x0 x1 MV HR
          rw [← hY] at c1 z0 z1 MV HR
          clear hX hY e0
          have g0 : decide ((0 : Int) < (m : Int)) = true := decide_eq_true (by omega)
          have g0' : decide (0 < m) = true := decide_eq_true (by omega)
          have p12 : (p : Int) ≤ 12 := by omega
          rcases (by omega : (p : Int) < Y ∨ Y ≤ p ∧ y < X ∨ Y ≤ p ∧ X ≤ y) with h1 | ⟨h1, h2⟩ | ⟨h1, h2⟩
          · have T2 : Hid (T = (pl (F.drop k) (p + 1) (sp.drop (p + 1))).map (L ++ ·)) := hide (by rw [HTT.out, MV.out (.inl h1)])
            clear HTT MV HR
            go_wp2
            go_roundw
            case rel => exact ⟨p + 1, k, m, n, L, A', _, c', cq, by omega, hkm, HNL.out, hnk, rfl, rfl, by go_num, hcq, HTL.out, HOL.out, T2.out, HB1.out⟩
            case measure => simp [intOf]; omega
          · have T2 : Hid (T = (pl (F.drop k) (p + 1) (sp.drop (p + 1))).map (L ++ ·)) := hide (by rw [HTT.out, MV.out (.inr h2)])
            clear HTT MV HR
            go_wp2
            go_roundw
            case rel => exact ⟨p + 1, k, m, n, L, A', _, c', cq, by omega, hkm, HNL.out, hnk, rfl, rfl, by go_num, hcq, HTL.out, HOL.out, T2.out, HB1.out⟩
            case measure => simp [intOf]; omega
          · have T2 : Hid (T = (pl (F.drop (k + 1)) p ((y - X) :: sp.drop (p + 1))).map ((L ++ [(p : Int)]) ++ ·)) := hide (by
              rw [HTT.out, HR.out h1 h2]
              cases pl (F.drop (k + 1)) p ((y - X) :: sp.drop (p + 1)) <;> simp)
            have hzb := HB1.out.size
            clear HTT MV HR
            rcases (by omega : cq = 1 ∨ 1 < cq) with hc1 | hc1
            · have TN : Hid (TL w (some ⟨b2, o2, none⟩) 0 (F.drop (k + 1))) := hide (by
                rw [List.drop_eq_nil_of_le (by omega)]; exact TL.nil _ _)
              have hm1 : m = 1 := by omega
              subst hc1
              subst hm1
              go_wp2_with (at_builtin; refine wpList_append_int rfl (.tmp 53) (.tmp 55) _ rfl 3 i0 Try.underlying22 hi0 jz0 jz1 jz2 w.heap.size A' c' n L rfl (HNL.out) (HOL.out.alloc _) wr.heap.size p rfl (by simp) (by omega) (by simp; omega) ?_; intro A' c' w' hol' hb' hg')
              go_roundw
              case rel => exact ⟨k + 1, 0, n + 1, L ++ [(p : Int)], A', _, c', 0, y - X, by omega, by simp [HNL.out], by omega, rfl, rfl, by go_num, ⟨by omega, by omega⟩, by omega, TN.out, hol', T2.out, (bl_alloc HB1.out _).trans hb'⟩
              case measure => simp [lenV]
            · have hF : (F.drop k).length = m := by rw [List.length_drop]; omega
              have TN : Hid (TL w (some ⟨b2, o2 + 2, none⟩) (m - 1) (F.drop (k + 1))) := hide (by
                have h := HTL.out
                rw [← hF] at h
                have := h.sub (f := 1) (t := (F.drop k).length) (by omega) (Nat.le_refl _)
                rw [hF, List.drop_drop, List.take_of_length_le (by rw [List.length_drop]; omega)] at this
                exact this)
              have CAST : ((m : Int) - 1) = ((m - 1 : Nat) : Int) := by omega
              clear CAST hF
              go_wp2_with (at_builtin; refine wpList_append_int rfl (.tmp 53) (.tmp 55) _ rfl 3 i0 Try.underlying22 hi0 jz0 jz1 jz2 w.heap.size A' c' n L rfl (HNL.out) (HOL.out.alloc _) wr.heap.size p rfl (by simp) (by omega) (by simp; omega) ?_; intro A' c' w' hol' hb' hg')
              go_roundw
              case rel => exact ⟨k + 1, m - 1, n + 1, L ++ [(p : Int)], A', _, c', cq - 1, y - X, by omega, by simp [HNL.out], by omega, rfl, rfl, by go_num, ⟨by omega, by omega⟩, by omega, TN.out, hol', T2.out, (bl_alloc HB1.out _).trans hb'⟩
              case measure => (simp [lenV]; omega)
    · have hps : sp.drop p = [] := List.drop_eq_nil_of_le (by omega)
      rcases Nat.eq_zero_or_pos m with hm0 | hm0
      · have E2 := hide (E.out.trans (show T = some L by rw [HTT.out, hps, List.drop_eq_nil_of_le (by omega)]; simp [pl]))
        have g0 : decide ((0 : Int) < (m : Int)) = false := decide_eq_false (by omega)
        have g0' : decide (0 < m) = false := decide_eq_false (by omega)
        clear hps
        go_wp2
        go_ret2
        exact RetO.yes E2.out HNL.out HOL.out HB1.out
      · have E2 := hide (E.out.trans (show T = none by rw [HTT.out, hps, drop_tgf (by omega : k < F.length), pl_out]; rfl))
        have g0 : decide ((0 : Int) < (m : Int)) = true := decide_eq_true (by omega)
        have g0' : decide (0 < m) = true := decide_eq_true (by omega)
        clear hps
        go_wp2
        go_ret2
        exact RetO.no E2.out HB1.out

theorem own_same (A : Option Addr) (n m c d : Nat) : (Value.slice A n c).ownBlock = (Value.slice A m d).ownBlock := by cases A <;> rfl
theorem set_drop {l : List Int} {p : Nat} {z : Int} (h : p < l.length) : (l.set p z).drop p = z :: l.drop (p + 1) := by
  rw [drop_ng (by simpa using h), ng_set h, if_pos rfl, List.drop_set_of_lt (by omega)]
set_option maxHeartbeats 4000000 in
theorem PlaceFigures_s (w : World) (A B : Option Addr) (c d : Nat) (F : List Du) (sp : List Int) (hf : TL w A F.length F) (hs : IL w B sp.length sp) (hsn : B = none → d = 0) (hm : F.length ≤ 4611686018427387904) (hn : sp.length ≤ 4611686018427387904) :
    Calls Try.prog 99 #[.slice A F.length c, .slice B sp.length d] w (RetO w (plV F sp)) := by
  obtain ⟨i0, hi0, jz0, jz1, jz2⟩ := info_parts int_info
  have HF := hide hf
  have HS := hide hs
  have HSN := hide hsn
  clear hf hs hsn
  cases q1 : fgok F
  · have E := hide (plV_no (sp := sp) (by rw [q1]; rfl))
    go_enter Try.func99, Try.ntmps99
    go_wp2_with (go_at_call 74; (with_reducible refine (validFloats_s _ _ _ _ F (HF.out.below (by (repeat' (first | with_reducible exact bl_refl _ | with_reducible assumption | with_reducible refine bl_alloc ?_ _ | with_reducible refine bl_set ?_ ?_ _ | with_reducible refine bl_drewN ?_ _ | with_reducible refine bl_drew ?_ | with_reducible refine bl_call (by assumption) ?_)); (all_goals (first | omega | (simp; done) | (simp; omega))))) (by omega)).mono ?_); rintro e w' ⟨rfl, j, rfl⟩)
    go_ret2
    exact RetO.no E.out (by (repeat' (first | with_reducible exact bl_refl _ | with_reducible assumption | with_reducible refine bl_alloc ?_ _ | with_reducible refine bl_set ?_ ?_ _ | with_reducible refine bl_drewN ?_ _ | with_reducible refine bl_drew ?_ | with_reducible refine bl_call (by assumption) ?_)); (all_goals (first | omega | (simp; done) | (simp; omega))))
  cases q2 : okLen sp 0 12 0 10000
  · have E := hide (plV_no (F := F) (by rw [q2, Bool.and_false]))
    go_enter Try.func99, Try.ntmps99
    go_wp2_with (first | (go_at_call 74; (with_reducible refine (validFloats_s _ _ _ _ F (HF.out.below (by (repeat' (first | with_reducible exact bl_refl _ | with_reducible assumption | with_reducible refine bl_alloc ?_ _ | with_reducible refine bl_set ?_ ?_ _ | with_reducible refine bl_drewN ?_ _ | with_reducible refine bl_drew ?_ | with_reducible refine bl_call (by assumption) ?_)); (all_goals (first | omega | (simp; done) | (simp; omega))))) (by omega)).mono ?_); rintro e w' ⟨rfl, j, rfl⟩) | (go_at_call 75; (with_reducible refine (validSpace_s _ _ _ _ sp ((HS.out.alloc _).drewN _) (by omega)).mono ?_); rintro e w' ⟨rfl, rfl⟩))
    go_ret2
    exact RetO.no E.out (by (repeat' (first | with_reducible exact bl_refl _ | with_reducible assumption | with_reducible refine bl_alloc ?_ _ | with_reducible refine bl_set ?_ ?_ _ | with_reducible refine bl_drewN ?_ _ | with_reducible refine bl_drew ?_ | with_reducible refine bl_call (by assumption) ?_)); (all_goals (first | omega | (simp; done) | (simp; omega))))
  obtain ⟨f1, f2⟩ := fgok_iff.1 q1
  obtain ⟨⟨_, s1⟩, s2⟩ := okLen_iff.1 q2
  have s1' : sp.length ≤ 12 := by omega
  have E := hide (plV_yes (F := F) (sp := sp) (by rw [q1, q2]; rfl))
  have F2 := hide f2
  have S2 := hide s2
  obtain ⟨T, hT⟩ : ∃ T, T = pl F 0 sp := ⟨_, rfl⟩
  rw [← hT] at E
  have T0 : Hid (T = (pl (F.drop 0) 0 (sp.drop 0)).map ([] ++ ·)) := hide (by rw [hT, List.drop_zero, List.drop_zero]; cases pl F 0 sp <;> simp)
  have HA := hide (show OL (w.alloc (.cells #[] 3)) 3 w.heap.size (some ⟨w.heap.size, 0, none⟩) 0 [] from by
    have := OL.lit (w := w) (e := 3) (B := w.heap.size) (Nat.le_refl _) [] (by simp)
    simpa using this)
  have HZ := hide (fun j => (show OL (((w.alloc (.cells #[] 3)).drewN j).alloc (.cells #[] 3)) 3 (w.heap.size + 1) (some ⟨w.heap.size + 1, 0, none⟩) 0 [] from by
    have := OL.lit (w := (w.alloc (.cells #[] 3)).drewN j) (e := 3) (B := w.heap.size + 1) (by simp) [] (by simp)
    simpa using this))
  clear f2 s2 s1 hT
  go_enter Try.func99, Try.ntmps99
  go_wp2_with (first | (go_at_call 74; (with_reducible refine (validFloats_s _ _ _ _ F (HF.out.below (by (repeat' (first | with_reducible exact bl_refl _ | with_reducible assumption | with_reducible refine bl_alloc ?_ _ | with_reducible refine bl_set ?_ ?_ _ | with_reducible refine bl_drewN ?_ _ | with_reducible refine bl_drew ?_ | with_reducible refine bl_call (by assumption) ?_)); (all_goals (first | omega | (simp; done) | (simp; omega))))) (by omega)).mono ?_); rintro e w' ⟨rfl, j, rfl⟩) | (go_at_call 75; (with_reducible refine (validSpace_s _ _ _ _ sp ((HS.out.alloc _).drewN _) (by omega)).mono ?_); rintro e w' ⟨rfl, rfl⟩) | (at_builtin; refine wpList_append_list rfl (.tmp 19) (.tmp 20) _ rfl 3 i0 Try.underlying22 hi0 jz0 jz1 jz2 (w.heap.size + 1) (some ⟨w.heap.size + 1, 0, none⟩) 0 0 [] rfl rfl (HZ.out _) B sp.length d sp rfl (((HS.out.alloc _).drewN _).alloc _) HSN.out (by omega) (by simp) ?_; intro A1 c1 w1 hol1 hb1 hg1))
  have HB := hide ((by
    have h0 : Below w.heap.size w (((w.alloc (.cells #[] 3)).drewN j).alloc (.cells #[] 3)) := (by (repeat' (first | with_reducible exact bl_refl _ | with_reducible assumption | with_reducible refine bl_alloc ?_ _ | with_reducible refine bl_set ?_ ?_ _ | with_reducible refine bl_drewN ?_ _ | with_reducible refine bl_drew ?_ | with_reducible refine bl_call (by assumption) ?_)); (all_goals (first | omega | (simp; done) | (simp; omega))))
    exact h0.trans (hb1.mono (by omega)) : Below w.heap.size w w1))
  have HO := hide hol1
  have HOUT := hide (((HA.out.drewN j).alloc _).kept hg1 (fun k hk => by
    have hk' : some w.heap.size = some k := hk
    injection hk' with hk'
    intro e
    have e' : some (w.heap.size + 1) = some k := e
    injection e' with e'
    omega))
  clear hol1 hb1 hg1 HA HZ
  go_loopw [6, 8, 9] (fun o pg i u => ∃ (k q n : Nat) (L Lf : List Int) (A' : Option Addr) (c' : Nat), k ≤ F.length ∧ q ≤ 12 ∧ n = L.length ∧ n ≤ k ∧ o = .slice A' n c' ∧ pg = .int .i64 q ∧ i = .int .i64 k ∧ Lf.length = sp.length ∧ (∀ j, j < Lf.length → 0 ≤ ng Lf j ∧ ng Lf j ≤ 10000) ∧ OL u 3 (w.heap.size + 1) A1 c1 Lf ∧ OL u 3 w.heap.size A' c' L ∧ (∀ b, (Value.slice A' n c').ownBlock = some b → (Value.slice A1 sp.length c1).ownBlock ≠ some b) ∧ T = (pl (F.drop k) q (Lf.drop q)).map (L ++ ·) ∧ Below w.heap.size w u) (fun _ _ i _ => F.length - (intOf i).toNat)
  case atStart => exact ⟨0, 0, 0, [], sp, _, _, by omega, by omega, rfl, by omega, rfl, rfl, rfl, rfl, S2.out, HO.out, HOUT.out, fun b hb => by
    have hk' : some w.heap.size = some b := hb
    injection hk' with hk'
    intro e
    have := (HO.out.own_lt b e).1
    omega, T0.out, HB.out⟩
  case round =>
    obtain ⟨k, q, n, L, Lf, A', c', hk, hq, hnl, hnk, rfl, rfl, rfl, hlf, hlb, hof, hol, hne, htt, hbl⟩ := hrel
    have HNL := hide hnl
    have HTT := hide htt
    have HLF := hide hlf
    have HLB := hide hlb
    have HOF := hide hof
    have HOL := hide hol
    have HNE := hide hne
    have HB1 := hide hbl
    clear hnl htt hlf hlb hof hol hne hbl HB HO HOUT T0
    by_cases hkf : k < F.length
    · obtain ⟨b2, o2, hA, hb2, k0, k1⟩ := HF.out.at2 hkf
      subst hA
      obtain ⟨x0, x1⟩ := (F2.out k hkf).1
      obtain ⟨z0, z1⟩ := (F2.out k hkf).2.1
      have PA := pl_at (f := tg F k) (F.drop (k + 1)) (q := q) Lf (max q (tg F k).b.toNat) rfl
      rw [← drop_tgf hkf] at PA
      obtain ⟨X, hX⟩ : ∃ X, X = (tg F k).a := ⟨_, rfl⟩
      obtain ⟨Y, hY⟩ : ∃ Y, Y = (tg F k).b := ⟨_, rfl⟩
      rw [← hX] at k0 x0 x1 PA
      rw [← hY] at k1 z0 z1 PA
      have K0 := hide k0
      have c1' := keep_cell HB1.out k1
      clear k0 k1
      obtain ⟨P, hP⟩ : ∃ P, P = max q Y.toNat := ⟨_, rfl⟩
      rw [← hP] at PA
      have HPA := hide PA
      have hP12 : P ≤ 12 := by omega
      have k10 : (k : Int) ≤ 10 := by omega
      clear hX hY PA
      have HMX : Hid ((q : Int) < Y ∧ Y = (P : Int) ∨ Y ≤ (q : Int) ∧ P = q) := hide (by omega)
      clear hP
      rcases HMX.out with ⟨h1, h2⟩ | ⟨h1, h2⟩
      all_goals
        clear HMX
        subst h2
        go_wp2
        go_loopw [8] (fun pg u => ∃ p : Nat, p ≤ 12 ∧ pg = .int .i64 p ∧ fp X P (Lf.drop P) = fp X p (Lf.drop p) ∧ OL u 3 (w.heap.size + 1) A1 c1 Lf ∧ OL u 3 w.heap.size A' c' L ∧ Below w.heap.size w u) (fun pg _ => 12 - (intOf pg).toNat)
        case atStart => exact ⟨P, hP12, rfl, rfl, HOF.out, HOL.out, HB1.out⟩
        case round =>
          clear HOF HOL HB1 c1'
          obtain ⟨p, hp12, rfl, hfp, hof, hol, hbl⟩ := hrel
          have HOF := hide hof
          have HOL := hide hol
          have HB1 := hide hbl
          have T1 := hide (HTT.out.trans (by rw [HPA.out, hfp]))
          clear hof hol hbl
          have c0 := keep_cell HB1.out K0.out
          have LL := HLF.out
          rcases (by omega : sp.length ≤ p ∨ p < sp.length) with h3 | h3
          · have E2 := hide (E.out.trans (show T = none by rw [T1.out, List.drop_eq_nil_of_le (by omega), fp_nil]; rfl))
            have d1 : decide ((p : Int) < (sp.length : Int)) = false := decide_eq_false (by omega)
            have d1' : decide (p < sp.length) = false := decide_eq_false (by omega)
            clear T1 hfp LL
            go_wp2
            go_quiet (fail)
            go_wp2
            go_ret2
            exact RetO.no E2.out (bl_drewN HB1.out _)
          have d1 : decide ((p : Int) < (sp.length : Int)) = true := decide_eq_true (by omega)
          have d1' : decide (p < sp.length) = true := decide_eq_true (by omega)
          obtain ⟨g, hg, hBg, hgz, hfz⟩ := HOF.out.frozen (by omega)
          obtain ⟨b3, o3, hb3, _, d0⟩ := HOF.out.reads.at_ (i := p) (by omega)
          subst hg
          injection hb3 with hb3
          cases hb3
          have fz := hfz p
          rw [Nat.zero_add] at d0
          obtain ⟨v0, v1⟩ := HLB.out p (by omega)
          have DR := drop_ng (l := Lf) (k := p) (by omega)
          have SB := hide (fun (z : Int) (h : 0 ≤ z ∧ z ≤ 10000) => (show ∀ j, j < (Lf.set p z).length → 0 ≤ ng (Lf.set p z) j ∧ ng (Lf.set p z) j ≤ 10000 from fun j hj => by
            rw [List.length_set] at hj
            rw [ng_set hj]
            split
            · exact h
            · exact HLB.out j hj))
          have SD := hide (fun (z : Int) => set_drop (l := Lf) (p := p) (z := z) (by omega))
          obtain ⟨v, hv⟩ : ∃ v, v = ng Lf p := ⟨_, rfl⟩
          rw [← hv] at d0 v0 v1 DR
          clear hv hfz
          have ne2 : ¬ g = b2 := by omega
          rcases (by omega : v < X ∨ X ≤ v) with h4 | h4
          · have M := hide (hfp.trans (show fp X p (Lf.drop p) = fp X (p + 1) (Lf.drop (p + 1)) by rw [DR, fp_next _ _ h4]))
            have d2 : decide (v < X) = true := decide_eq_true h4
            clear T1 hfp LL DR
            go_wp2
            go_quiet (fail)
            go_wp2
            go_roundw
            case rel => exact ⟨p + 1, by omega, by go_num, M.out, HOF.out.drewN _, HOL.out.drewN _, bl_drewN HB1.out _⟩
            case measure => simp [intOf]; omega
          · have T2 := hide (T1.out.trans (show _ = (pl (F.drop (k + 1)) p ((Lf.set p (v - X)).drop p)).map ((L ++ [(p : Int)]) ++ ·) by
              rw [DR, fp_yes _ _ h4, SD.out]
              simp only
              cases pl (F.drop (k + 1)) p ((v - X) :: Lf.drop (p + 1)) <;> simp))
            have d2 : decide (v < X) = false := decide_eq_false (by omega)
            have ST := fun (y : Nat) => (HOF.out.drewN y).set_ p (v - X)
            have HST := hide (fun (y : Nat) => (ST y).1)
            have HOL2 := hide (fun (y : Nat) => (HOL.out.drewN y).kept (ST y).2 (fun b hb => HNE.out b ((own_same _ _ _ _ _).trans hb)))
            have hzb := HB1.out.size
            have HB2 := hide (fun (y : Nat) => (bl_drewN HB1.out y).setCell (p := ⟨g, p, none⟩) (show w.heap.size ≤ g by omega) (.int .i64 (v - X)))
            clear T1 hfp LL DR ST
            go_wp2
            go_quiet (fail)
            go_wp2
            go_region
            go_wp2_with (at_builtin; refine wpList_append_int_at rfl (.tmp 70) (.tmp 72) _ rfl 3 i0 Try.underlying22 hi0 jz0 jz1 jz2 w.heap.size A' c' n L rfl HNL.out ((HOL2.out _).alloc _) wr.heap.size p rfl (cell_new_at (by simp)) (by omega) (by simp; omega) ?_; intro A2 c2 w2 hol2 hb2' hg2 hat2)
            have HL2 := hide (((HST.out _).alloc _).kept hg2 (fun b hb e => HNE.out b e ((own_same _ _ _ _ _).trans hb)))
            go_roundw
            case rel => exact ⟨k + 1, p, n + 1, L ++ [(p : Int)], Lf.set p (v - X), A2, c2, by omega, by omega, by simp [HNL.out], by omega, rfl, rfl, by go_num, by rw [List.length_set]; exact HLF.out, SB.out _ (by omega), HL2.out, hol2, fun b hb => by
              intro e
              rcases hat2 with h | h
              · exact HNE.out b (h.symm.trans hb) e
              · have e1 : some g = some b := e
                rw [h] at hb
                injection hb with hb
                injection e1 with e1
                simp at hb
                omega, T2.out, (bl_alloc (HB2.out _) _).trans hb2'⟩
            case measure => simp [intOf]; omega
    · have E2 := hide (E.out.trans (show T = some L by rw [HTT.out, List.drop_eq_nil_of_le (by omega)]; simp [pl]))
      go_wp2
      go_ret2
      exact RetO.yes E2.out HNL.out HOL.out HB1.out
end Go.Proofs.Ytkclecfjpabplaa
