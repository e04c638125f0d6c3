/- LevelsOf and ShowText in the model. -/
import Derived.Test.YteoiphjkkcjddaaLvJ
import Derived.Test.YteoiphjkkcjddaaDirS
namespace Go.Proofs.Yteoiphjkkcjddaa
open Go.ChangeShapes Go.WideShapes Go.ChangeAt Go.RowKit
set_option linter.unusedVariables false

theorem classOf_s (c : UInt8) (w : World) :
    Calls Try.prog 52 #[.int .u8 c.toNat] w fun e w' => e = .returned (.int .i64 (cls c : Int)) ∧ w = w' := by
  have hc8 : c.toNat < 256 := UInt8.toNat_lt c
  rcases cls_or c with ⟨k, k1, k2⟩ | ⟨k, k1, k2⟩ | ⟨k, k1, k2⟩ | ⟨k, k1, k2, k3⟩
  · have E := hide k
    clear k
    go_enter Try.func52, Try.ntmps52
    go_wp2
    go_ret
    exact ⟨int_ret (by rw [E.out]; rfl), rfl⟩
  · have E := hide k
    clear k
    go_enter Try.func52, Try.ntmps52
    go_wp2
    go_ret
    exact ⟨int_ret (by rw [E.out]; rfl), rfl⟩
  · have E := hide k
    clear k
    go_enter Try.func52, Try.ntmps52
    go_wp2
    go_ret
    exact ⟨int_ret (by rw [E.out]; rfl), rfl⟩
  · have E := hide k
    rcases (by omega : c.toNat < 48 ∨ (57 < c.toNat ∧ c.toNat < 65) ∨ (90 < c.toNat ∧ c.toNat < 97) ∨ 122 < c.toNat) with h | ⟨h, h'⟩ | ⟨h, h'⟩ | h
    all_goals
      clear k k1 k2 k3
      go_enter Try.func52, Try.ntmps52
      go_wp2
      go_ret
      exact ⟨int_ret (by rw [E.out]; rfl), rfl⟩
theorem levelOf_s (n : Nat) (b : Int) (w : World) (hn : n ≤ 3) (hb : 0 ≤ b ∧ b ≤ 1) :
    Calls Try.prog 51 #[.int .i64 n, .int .i64 b] w fun e w' => e = .returned (.int .i64 (if n = 2 then 1 else if n = 1 ∨ n = 3 then 2 * b else b)) ∧ w = w' := by
  obtain ⟨b0, b1⟩ := hb
  rcases (by omega : n = 0 ∨ n = 1 ∨ n = 2 ∨ n = 3) with rfl | rfl | rfl | rfl
  all_goals
    go_enter Try.func51, Try.ntmps51
    go_wp2
    go_ret
    exact ⟨int_ret (by simp), rfl⟩
theorem cls_le (c : UInt8) : cls c ≤ 3 := by unfold cls; split; omega; split; omega; split <;> omega
theorem put_at {P Q : List Int} {v x y : Int} {j : Nat} : (P ++ List.replicate j v ++ (y :: Q)).set (P.length + j) x = P ++ List.replicate j v ++ (x :: Q) := by
  rw [List.set_append_right _ _ (by simp)]
  simp
theorem rep_next {P Q : List Int} {v : Int} {j : Nat} : P ++ List.replicate j v ++ (v :: Q) = P ++ List.replicate (j + 1) v ++ Q := by
  rw [List.replicate_succ']; simp
theorem mid_get {P Q : List Int} {x : Int} : ng (P ++ x :: Q) P.length = x := by
  rw [ng_app, if_neg (by omega), Nat.sub_self]; rfl
theorem last_get {P Q : List Int} {x : Int} {m : Nat} (h : P.length = m + 1) (hx : ng P m = x) : ng (P ++ Q) m = x := by
  rw [ng_app, if_pos (by omega), hx]

set_option maxRecDepth 4000
set_option maxHeartbeats 4000000 in
theorem levelsOf_s (s : ByteArray) (b : Int) (w : World) (hb : 0 ≤ b ∧ b ≤ 1) (hlen : s.size ≤ 60) :
    Calls Try.prog 38 #[.string s, .int .i64 b] w fun e w' => ∃ A c, e = .returned (.slice A (lvL s.data.toList b).length c) ∧ OL w' 3 w.heap.size A c (lvL s.data.toList b) ∧ Below w.heap.size w w' := by
  obtain ⟨b0, b1⟩ := hb
  have et : b.tmod 2 = b := by rw [Int.tmod_eq_emod_of_nonneg b0]; omega
  have wb : IntKind.i64.wrap b = b := IntWalk.i64_in _ (by omega)
  have HB : Hid (0 ≤ b ∧ b ≤ 1) := hide ⟨b0, b1⟩
  obtain ⟨T, hT⟩ : ∃ T, T = lvL s.data.toList b := ⟨_, rfl⟩
  have HTl : Hid (T.length = s.size) := hide (by rw [hT, lvL_len, txt_len])
  have HT : Hid (T = [] ++ lvs b b (dl b b) 0 (s.data.toList.drop 0)) := hide (by
    rw [hT, lvL, List.drop_zero, List.nil_append]
    congr 1
    unfold dl; split <;> omega)
  rw [← hT]
  obtain ⟨F, hF⟩ : ∃ F, F = fx b b s.data.toList := ⟨_, rfl⟩
  have HF : Hid (F = [] ++ fx b b (s.data.toList.drop 0)) := hide (by rw [hF]; rfl)
  have HFl : Hid (F = fx b b s.data.toList) := hide hF
  have H0 : Hid (OL (w.alloc (.cells #[] 3)) 3 w.heap.size (some ⟨w.heap.size, 0, none⟩) 0 ((s.data.toList.take 0).map (rw0 b))) := hide (by
    have := OL.lit (w := w) (e := 3) (B := w.heap.size) (Nat.le_refl _) [] (by simp)
    simpa using this)
  obtain ⟨i0, hi0, jz0, jz1, jz2⟩ := info_parts int_info
  clear hT hF
  go_enter Try.func38, Try.ntmps38
  go_wp2
  go_loopw [5, 6] (fun o i u => ∃ (p : Nat) (Ao : Option Addr) (co : Nat), p ≤ s.size ∧ o = .slice Ao p co ∧ i = .int .i64 p ∧ OL u 3 w.heap.size Ao co ((s.data.toList.take p).map (rw0 b)) ∧ Below w.heap.size w u) (fun _ i _ => s.size - (intOf i).toNat)
  case atStart => exact ⟨0, _, _, by omega, rfl, rfl, H0.out, bl_alloc (bl_refl _) _⟩
  case round =>
    obtain ⟨p, Ao, co, hp, rfl, rfl, hol, hbl⟩ := hrel
    have hz1 : w.heap.size ≤ wr.heap.size := hbl.size
    by_cases hlt : p < s.size
    · obtain ⟨z, hz⟩ : ∃ z, z = rw0 b s[p] := ⟨_, rfl⟩
      have CC := fun (u : World) => classOf_s s[p] u
      have CL := fun (u : World) => levelOf_s (cls s[p]) b u (cls_le _) HB.out
      rw [show (if cls s[p] = 2 then (1 : Int) else if cls s[p] = 1 ∨ cls s[p] = 3 then 2 * b else b) = z from hz.symm] at CL
      have U : Hid (p = ((s.data.toList.take p).map (rw0 b)).length) := hide (by simp; omega)
      have U2 : Hid ((s.data.toList.take p).map (rw0 b) ++ [z] = (s.data.toList.take (p + 1)).map (rw0 b)) := hide (by
        have e : List.take (p + 1) s.data.toList = List.take p s.data.toList ++ [s[p]] := by
          rw [List.take_add_one, List.getElem?_eq_getElem (by simpa using hlt)]; rfl
        rw [e, List.map_append, hz]; rfl)
      have CC := hide CC
      have CL := hide CL
      clear hz
      go_wp2_with (first | (go_at_call 52; (with_reducible refine (CC.out _).mono ?_); rintro e w' ⟨rfl, rfl⟩) | (go_at_call 51; (with_reducible refine (CL.out _).mono ?_); rintro e w' ⟨rfl, rfl⟩) | (at_builtin; refine wpList_append_int rfl (.tmp 21) (.tmp 28) _ rfl 3 i0 Try.underlying22 hi0 jz0 jz1 jz2 w.heap.size Ao co p ((s.data.toList.take p).map (rw0 b)) rfl (U.out) (hol.alloc _) wr.heap.size z rfl (by simp) (by omega) (by simp; omega) ?_; intro A' c' w' hol' hb' hg'))
      rw [U2.out] at hol'
      go_roundw
      case rel => exact ⟨p + 1, A', c', by omega, rfl, by go_num, hol', (bl_alloc hbl _).trans hb'⟩
      case measure => simp [intOf]; omega
    · have hpe : s.size = p := by omega
      have U3 : Hid (OL wr 3 w.heap.size Ao co ([] ++ (s.data.toList.drop 0).map (rw0 b))) := hide (by
        rw [← hpe, List.take_of_length_le (by rw [txt_len]; exact Nat.le_refl _)] at hol
        simpa using hol)
      rw [← hpe]
      clear hol hpe hp hlt
      clear p
      go_wp2
      go_loopw [7, 8] (fun l i u => ∃ (p : Nat) (last : Int) (X : List Int), p ≤ s.size ∧ (0 ≤ last ∧ last ≤ 2) ∧ p = X.length ∧ l = .int .i64 last ∧ i = .int .i64 p ∧ OL u 3 w.heap.size Ao co (X ++ (s.data.toList.drop p).map (rw0 b)) ∧ F = X ++ fx b last (s.data.toList.drop p) ∧ Below w.heap.size w u) (fun _ i _ => s.size - (intOf i).toNat)
      case atStart => exact ⟨0, b, [], by omega, by omega, rfl, rfl, rfl, U3.out, HF.out, hbl⟩
      case round =>
        clear hz1 hbl
        obtain ⟨p, last, X, hp, hla, hX, rfl, rfl, hol, hF, hbl⟩ := hrel
        by_cases hlt : p < s.size
        · have CC := fun (u : World) => classOf_s s[p] u
          rw [txt_drop hlt, List.map_cons] at hol
          rw [txt_drop hlt] at hF
          have hol0 := hol
          obtain ⟨g, he', hgB, _, hfz⟩ := hol.frozen (by rw [List.length_append, List.length_cons]; omega)
          subst he'
          obtain ⟨b', o', he, _, hc⟩ := hol.reads.at_ (i := p) (by simp; omega)
          injection he with he
          cases he
          have e5 := mid_get (P := X) (Q := (s.data.toList.drop (p + 1)).map (rw0 b)) (x := rw0 b s[p])
          rw [← hX] at e5
          rw [Nat.zero_add, e5] at hc
          clear e5
          have fz := hfz p
          have OH := hide hol
          have HX := hide hX
          have HFF := hide hF
          have XA : ∀ x, X ++ [x] ++ (s.data.toList.drop (p + 1)).map (rw0 b) = X ++ (x :: (s.data.toList.drop (p + 1)).map (rw0 b)) := fun x => by simp
          have XA := hide XA
          clear hfz hol hol0 hX hF
          rcases cls_or s[p] with ⟨k, _⟩ | ⟨k, _⟩ | ⟨k, _⟩ | ⟨k, _⟩
          · have e1 : rw0 b s[p] = 2 * b := by simp [rw0, k]
            rw [e1] at hc
            have O2 : Hid (OL wr 3 w.heap.size (some ⟨g, 0, none⟩) co (X ++ [2 * b] ++ (s.data.toList.drop (p + 1)).map (rw0 b))) := hide (by have := OH.out; rw [e1] at this; rw [XA.out]; exact this)
            have F2 : Hid (F = X ++ [2 * b] ++ fx b (2 * b) (s.data.toList.drop (p + 1))) := hide (by rw [HFF.out, fx_low k]; simp)
            rw [k] at CC
            have CC := hide CC
            clear e1 k
            go_wp2_with (go_at_call 52; (with_reducible refine (CC.out _).mono ?_); rintro e w' ⟨rfl, rfl⟩)
            go_roundw
            case rel => exact ⟨p + 1, 2 * b, _, by omega, by omega, by simp [HX.out], rfl, by go_num, O2.out, F2.out, hbl⟩
            case measure => simp [intOf]; omega
          · have e1 : rw0 b s[p] = 1 := by simp [rw0, k]
            rw [e1] at hc
            have O2 : Hid (OL wr 3 w.heap.size (some ⟨g, 0, none⟩) co (X ++ [1] ++ (s.data.toList.drop (p + 1)).map (rw0 b))) := hide (by have := OH.out; rw [e1] at this; rw [XA.out]; exact this)
            have F2 : Hid (F = X ++ [1] ++ fx b 1 (s.data.toList.drop (p + 1))) := hide (by rw [HFF.out, fx_cap k]; simp)
            rw [k] at CC
            have CC := hide CC
            clear e1 k
            go_wp2_with (go_at_call 52; (with_reducible refine (CC.out _).mono ?_); rintro e w' ⟨rfl, rfl⟩)
            go_roundw
            case rel => exact ⟨p + 1, 1, _, by omega, by omega, by simp [HX.out], rfl, by go_num, O2.out, F2.out, hbl⟩
            case measure => simp [intOf]; omega
          · have e1 : rw0 b s[p] = 2 * b := by simp [rw0, k]
            rw [e1] at hc
            rw [k] at CC
            have CC := hide CC
            have F2 : Hid (F = X ++ [dl b last] ++ fx b last (s.data.toList.drop (p + 1))) := hide (by rw [HFF.out, fx_dig k]; simp)
            cases q : last == 1
            · have O2 : Hid (OL wr 3 w.heap.size (some ⟨g, 0, none⟩) co (X ++ [dl b last] ++ (s.data.toList.drop (p + 1)).map (rw0 b))) := hide (by
                rw [XA.out, show dl b last = rw0 b s[p] by rw [e1, dl, if_neg (by simpa using q)]]; exact OH.out)
              clear e1 k
              go_wp2_with (go_at_call 52; (with_reducible refine (CC.out _).mono ?_); rintro e w' ⟨rfl, rfl⟩)
              go_roundw
              case rel => exact ⟨p + 1, last, _, by omega, by omega, by simp [HX.out], rfl, by go_num, O2.out, F2.out, hbl⟩
              case measure => simp [intOf]; omega
            · have O2 : Hid (OL (wr.setCell ⟨g, p, none⟩ (.int .i64 2)) 3 w.heap.size (some ⟨g, 0, none⟩) co (X ++ [dl b last] ++ (s.data.toList.drop (p + 1)).map (rw0 b))) := hide (by
                have h1 := (OH.out.set_ p 2).1
                have h2 := put_at (P := X) (Q := (s.data.toList.drop (p + 1)).map (rw0 b)) (v := 0) (x := 2) (y := rw0 b s[p]) (j := 0)
                simp only [List.replicate_zero, List.append_nil, Nat.add_zero, ← HX.out] at h2
                rw [h2] at h1
                rw [XA.out, show dl b last = 2 by rw [dl, if_pos (by simpa using q)]]
                exact h1)
              clear e1 k
              go_wp2_with (go_at_call 52; (with_reducible refine (CC.out _).mono ?_); rintro e w' ⟨rfl, rfl⟩)
              go_roundw
              case rel => exact ⟨p + 1, last, _, by omega, by omega, by simp [HX.out], rfl, by go_num, O2.out, F2.out, bl_set hbl hgB _⟩
              case measure => simp [intOf]; omega
          · have e1 : rw0 b s[p] = b := by simp [rw0, k]
            rw [e1] at hc
            have O2 : Hid (OL wr 3 w.heap.size (some ⟨g, 0, none⟩) co (X ++ [b] ++ (s.data.toList.drop (p + 1)).map (rw0 b))) := hide (by have := OH.out; rw [e1] at this; rw [XA.out]; exact this)
            have F2 : Hid (F = X ++ [b] ++ fx b last (s.data.toList.drop (p + 1))) := hide (by rw [HFF.out, fx_none k]; simp)
            rw [k] at CC
            have CC := hide CC
            clear e1 k
            go_wp2_with (go_at_call 52; (with_reducible refine (CC.out _).mono ?_); rintro e w' ⟨rfl, rfl⟩)
            go_roundw
            case rel => exact ⟨p + 1, last, _, by omega, by omega, by simp [HX.out], rfl, by go_num, O2.out, F2.out, hbl⟩
            case measure => simp [intOf]; omega
        · have U4 : Hid (OL wr 3 w.heap.size Ao co ([] ++ fx b b (s.data.toList.drop 0))) := hide (by
            rw [List.drop_eq_nil_of_le (by rw [txt_len]; omega), List.map_nil, List.append_nil] at hol
            rw [List.drop_eq_nil_of_le (by rw [txt_len]; omega)] at hF
            rw [show fx b last [] = [] from rfl, List.append_nil] at hF
            rw [← HF.out, hF]; exact hol)
          clear hol hF hX
          go_wp2
          go_loopw [9] (fun i u => ∃ (p : Nat) (last be : Int) (P : List Int), p ≤ s.size ∧ (0 ≤ be ∧ be ≤ 2) ∧ (p = 0 → be = b) ∧ (0 < p → ng P (p - 1) = be) ∧ p = P.length ∧ i = .int .i64 p ∧ OL u 3 w.heap.size Ao co (P ++ fx b last (s.data.toList.drop p)) ∧ T = P ++ lvs b be (dl b last) 0 (s.data.toList.drop p) ∧ Below w.heap.size w u) (fun i _ => s.size - (intOf i).toNat)
          case atStart => exact ⟨0, b, b, [], by omega, by omega, fun _ => rfl, fun h => by omega, rfl, rfl, U4.out, HT.out, hbl⟩
          case round =>
            clear hbl hla
            obtain ⟨p, last, be, P, hp, hbe, hbe0, hbeP, hP, rfl, hol, hT, hbl⟩ := hrel
            by_cases hlt : p < s.size
            · have HOL := hide hol
              have HTT := hide hT
              have HPP := hide hP
              have HBE0 := hide hbe0
              have HBEP := hide hbeP
              clear hol hT hP hbe0 hbeP
              go_wp2
              go_loopw [10] (fun i u => ∃ k : Nat, p ≤ k ∧ k ≤ s.size ∧ (∀ j, p ≤ j → j < k → cls (bg s.data.toList j) = 0) ∧ i = .int .i64 k ∧ OL u 3 w.heap.size Ao co (P ++ fx b last (s.data.toList.drop p)) ∧ Below w.heap.size w u) (fun i _ => s.size - (intOf i).toNat)
              case atStart => exact ⟨p, by omega, by omega, fun j h1 h2 => by omega, rfl, HOL.out, hbl⟩
              case round =>
                clear HOL hbl
                obtain ⟨k, hpk, hk, hno, rfl, hol, hbl⟩ := hrel
                have HNO := hide hno
                clear hno
                by_cases hkc : ∃ h : k < s.size, cls s[k] = 0
                · obtain ⟨hkN, hc0⟩ := hkc
                  have CC := fun (u : World) => classOf_s s[k] u
                  rw [hc0] at CC
                  have CC := hide CC
                  have N2 : Hid (∀ j, p ≤ j → j < k + 1 → cls (bg s.data.toList j) = 0) := hide (fun j h1 h2 => by
                    rcases (by omega : j < k ∨ j = k) with h | rfl
                    · exact HNO.out j h1 h
                    · rw [bg_at hkN]; exact hc0)
                  have O1 := hide hol
                  clear hc0 hol
                  go_wp2_with (go_at_call 52; (with_reducible refine (CC.out _).mono ?_); rintro e w' ⟨rfl, rfl⟩)
                  go_roundw
                  case rel => exact ⟨k + 1, by omega, by omega, N2.out, by go_num, O1.out, hbl⟩
                  case measure => simp [intOf]; omega
                · have HR : Hid (∀ c cs, s.data.toList.drop k = c :: cs → cls c ≠ 0) := hide (fun c cs h hc => by
                    have hkN : k < s.size := by
                      rcases Nat.lt_or_ge k s.size with h' | h'
                      · exact h'
                      · rw [List.drop_eq_nil_of_le (by rw [txt_len]; exact h')] at h; cases h
                    rw [txt_drop hkN] at h
                    injection h with h _
                    exact hkc ⟨hkN, by rw [h]; exact hc⟩)
                  have O1 := hide hol
                  clear hol
                  rcases (by omega : k = p ∨ p < k) with hkp | hkp
                  · -- a character with a direction
                    subst hkp
                    have hc0 : cls s[k] ≠ 0 := fun h => hkc ⟨hlt, h⟩
                    obtain ⟨n, hn⟩ : ∃ n, n = cls s[k] := ⟨_, rfl⟩
                    have CC := fun (u : World) => classOf_s s[k] u
                    rw [← hn] at CC
                    have qn : ((n : Int) == 0) = false := by rw [hn]; simp; exact hc0
                    obtain ⟨x, last', e1, e2, x0, x2, hl'⟩ := go_dir (b := b) (last := last) (be := be) HB.out (cs := s.data.toList.drop (k + 1)) hc0
                    rw [← txt_drop hlt] at e1 e2
                    have O2 : Hid (OL wr 3 w.heap.size Ao co (P ++ [x] ++ fx b last' (s.data.toList.drop (k + 1)))) := hide (by
                      have := O1.out; rw [e1] at this; simpa using this)
                    have T2 : Hid (T = P ++ [x] ++ lvs b x (dl b last') 0 (s.data.toList.drop (k + 1))) := hide (by rw [HTT.out, e2]; simp)
                    have PX : Hid (ng (P ++ [x]) k = x) := hide (by have := HPP.out; rw [this, ng_app, if_neg (by omega), Nat.sub_self]; rfl)
                    have CC := hide CC
                    clear hkc hc0 hn e1 e2 hl'
                    go_wp2_with (go_at_call 52; (with_reducible refine (CC.out _).mono ?_); rintro e w' ⟨rfl, rfl⟩)
                    go_roundw
                    case rel => exact ⟨k + 1, last', x, P ++ [x], by omega, ⟨x0, x2⟩, fun h => by omega, fun _ => PX.out, by simp [HPP.out], by go_num, O2.out, T2.out, hbl⟩
                    case measure => simp [intOf]; omega
                  · -- a run without directions
                    obtain ⟨R, hR⟩ : ∃ R, R = (s.data.toList.drop p).take (k - p) := ⟨_, rfl⟩
                    have hRl : R.length = k - p := by rw [hR, List.length_take, List.length_drop, txt_len]; omega
                    have hsp : s.data.toList.drop p = R ++ s.data.toList.drop k := by
                      rw [hR, show s.data.toList.drop k = (s.data.toList.drop p).drop (k - p) by rw [List.drop_drop]; congr 1; omega, List.take_append_drop]
                    have hR0 : ∀ c ∈ R, cls c = 0 := by
                      intro c hc
                      obtain ⟨j, hj, rfl⟩ := List.getElem_of_mem hc
                      rw [hRl] at hj
                      have := HNO.out (p + j) (by omega) (by omega)
                      rw [bg_lt (by rw [txt_len]; omega)] at this
                      rw [← this]
                      congr 1
                      subst hR
                      simp
                    obtain ⟨F2, hF2⟩ : ∃ F2, F2 = fx b last (s.data.toList.drop k) := ⟨_, rfl⟩
                    obtain ⟨af, haf⟩ : ∃ af, af = aft b last (s.data.toList.drop k) := ⟨_, rfl⟩
                    obtain ⟨v, hv⟩ : ∃ v, v = stl b be af := ⟨_, rfl⟩
                    have hafi : 0 ≤ af ∧ af ≤ 2 := by rw [haf]; exact aft_in HB.out HR.out
                    have hvi : 0 ≤ v ∧ v ≤ 2 := by rw [hv]; exact stl_in HB.out
                    have O2 : OL wr 3 w.heap.size Ao co (P ++ List.replicate 0 v ++ (List.replicate (k - p) b ++ F2)) := by
                      have := O1.out
                      rw [hsp, fx_run R _ hR0, hRl, ← hF2] at this
                      simpa using this
                    have T2 : Hid (T = P ++ List.replicate (k - p) v ++ lvs b v (dl b last) 0 (s.data.toList.drop k)) := hide (by
                      rw [HTT.out, hsp, go_run (be' := v) HB.out hR0 HR.out, hRl, ← haf, ← hv]; simp)
                    have PV : Hid (ng (P ++ List.replicate (k - p) v) (k - 1) = v) := hide (by
                      have := HPP.out
                      rw [ng_app, if_neg (by omega), ng_rep (by omega)])
                    have hF2N : k < s.size → ng F2 0 = af ∧ 0 < F2.length := fun h => by
                      have e : s.data.toList.drop k ≠ [] := by rw [txt_drop h]; simp
                      rw [haf, aft, if_neg e, hF2, fx_len]
                      exact ⟨rfl, List.length_pos_iff.2 e⟩
                    have hafN : k = s.size → af = b := fun h => by rw [haf, aft, if_pos (List.drop_eq_nil_of_le (by rw [txt_len]; omega))]
                    obtain ⟨g, rfl, hgB, hgw, _, _⟩ := O2.form (by simp; omega)
                    have HF2 : Hid (F2 = fx b last (s.data.toList.drop k)) := hide hF2
                    have OO := hide O2
                    have cK : k < s.size → wr.cell? ⟨g, k, none⟩ = some (.int .i64 af) := fun h => by
                      obtain ⟨h1, h2⟩ := hF2N h
                      have hPl := HPP.out
                      obtain ⟨b', o', he, _, hc⟩ := OO.out.reads.at_ (i := k) (by simp; omega)
                      injection he with he
                      cases he
                      rw [Nat.zero_add] at hc
                      rw [hc]
                      congr 2
                      rw [List.replicate_zero, List.append_nil, ng_app, if_neg (by omega), ng_app, if_neg (by simp; omega), List.length_replicate, show k - P.length - (k - p) = 0 by omega]
                      exact h1
                    have cP : ∀ m : Nat, p = m + 1 → wr.cell? ⟨g, m, none⟩ = some (.int .i64 be) := fun m hm => by
                      have hPl := HPP.out
                      obtain ⟨b', o', he, _, hc⟩ := OO.out.reads.at_ (i := m) (by simp; omega)
                      injection he with he
                      cases he
                      rw [Nat.zero_add] at hc
                      rw [hc]
                      congr 2
                      rw [List.replicate_zero, List.append_nil]
                      refine last_get (by omega) ?_
                      have := HBEP.out (by omega)
                      rwa [show p - 1 = m by omega] at this
                    have e1 : be.tmod 2 = be % 2 := Int.tmod_eq_emod_of_nonneg (by omega)
                    have e2 : af.tmod 2 = af % 2 := Int.tmod_eq_emod_of_nonneg (by omega)
                    have VY : Hid (be % 2 = af % 2 → be % 2 ≠ b → v = if b = 1 then 2 else 1 - b) := hide (fun h1 h2 => by rw [hv, stl_yes HB.out h1 h2])
                    have VN : Hid (¬ (be % 2 = af % 2 ∧ be % 2 ≠ b) → v = b) := hide (fun h1 => by rw [hv, stl_no HB.out h1])
                    obtain ⟨x1, hx1⟩ : ∃ x, x = be % 2 := ⟨_, rfl⟩
                    obtain ⟨x2, hx2⟩ : ∃ x, x = af % 2 := ⟨_, rfl⟩
                    rw [← hx1] at e1 VY VN
                    rw [← hx2] at e2 VY VN
                    have x1b : 0 ≤ x1 ∧ x1 ≤ 1 := by omega
                    have x2b : 0 ≤ x2 ∧ x2 ≤ 1 := by omega
                    have w1 : IntKind.i64.wrap x1 = x1 := IntWalk.i64_in _ (by omega)
                    have w2 : IntKind.i64.wrap x2 = x2 := IntWalk.i64_in _ (by omega)
                    have XB : Hid (be = b → x1 = b) := hide (fun h => by rw [hx1, h]; omega)
                    have AB : Hid (af = b → x2 = b) := hide (fun h => by rw [hx2, h]; omega)
                    have nkp : ((k : Int) == (p : Int)) = false := by simp; omega
                    have HKC := hide hkc
                    have CC := hide (fun (h : k < s.size) (u : World) => classOf_s s[k] u)
                    have NC : Hid (∀ h : k < s.size, ((cls s[k] : Int) == 0) = false) := hide (fun h => by simp; exact fun e => hkc ⟨h, e⟩)
                    have CK := hide cK
                    have CP := hide cP
                    have AN := hide hafN
                    clear hR hRl hsp hR0 hF2 haf hv O2 hF2N hafN cK cP hkc hx1 hx2 O1
                    rcases (by omega : ¬ 0 < p ∨ 0 < p) with hp0 | hp0
                    · have hbb := HBE0.out (by omega)
                      have EV : Hid (v = b) := hide (VN.out (fun h => h.2 (XB.out hbb)))
                      clear hbb
                      rcases (by omega : ¬ k < s.size ∨ k < s.size) with hkN | hkN
                      · clear CC NC CK e1 e2
                        go_wp2
                        go_loopw [13] (fun i u => ∃ (m r : Nat), p + m + r = k ∧ i = .int .i64 ((p + m : Nat) : Int) ∧ OL u 3 w.heap.size (some ⟨g, 0, none⟩) co (P ++ List.replicate m v ++ (List.replicate r b ++ F2)) ∧ Below w.heap.size w u) (fun i _ => k - (intOf i).toNat)
                        case atStart => exact ⟨0, k - p, by omega, by go_num, OO.out, hbl⟩
                        case round =>
                          clear hbl hgw
                          obtain ⟨m, r, hmr, rfl, hol, hbl⟩ := hrel
                          obtain ⟨d, hd⟩ : ∃ d, d = p + m := ⟨_, rfl⟩
                          rw [← hd]
                          rcases Nat.eq_zero_or_pos r with hr | hr
                          · subst hr
                            have O5 : Hid (OL wr 3 w.heap.size (some ⟨g, 0, none⟩) co (P ++ List.replicate (k - p) v ++ fx b last (s.data.toList.drop k))) := hide (by
                              rw [show k - p = m by omega, ← HF2.out]; simpa using hol)
                            have hdk : ¬ d < k := by omega
                            clear hol hmr hd
                            go_wp2
                            go_roundw
                            case rel => exact ⟨k, last, v, P ++ List.replicate (k - p) v, hk, hvi, fun h => by omega, fun _ => PV.out, by have := HPP.out; simp; omega, rfl, O5.out, T2.out, hbl⟩
                            case measure => simp [intOf]; omega
                          · obtain ⟨r, rfl⟩ : ∃ r', r = r' + 1 := ⟨r - 1, by omega⟩
                            have hPl := HPP.out
                            rw [List.replicate_succ, List.cons_append] at hol
                            obtain ⟨b', o', he, _, hc⟩ := hol.reads.at_ (i := d) (by simp; omega)
                            obtain ⟨g', he', _, _, hfz⟩ := hol.frozen (by rw [List.length_append, List.length_cons]; omega)
                            injection he with he; injection he' with he'
                            cases he; cases he'
                            have fz := hfz d
                            rw [Nat.zero_add] at hc
                            obtain ⟨cv, hcv⟩ : ∃ cv, cv = ng (P ++ List.replicate m v ++ b :: (List.replicate r b ++ F2)) d := ⟨_, rfl⟩
                            rw [← hcv] at hc
                            have hdP : d = P.length + m := by omega
                            have PA := fun x y => put_at (P := P) (Q := List.replicate r b ++ F2) (v := v) (x := x) (y := y) (j := m)
                            rw [← hdP] at PA
                            have PA := hide PA
                            have O1 := hide hol
                            have HD := hide hd
                            have HMR := hide hmr
                            have hdk : d < k := by omega
                            clear hfz hol hcv hdP hPl hd hmr
                            have O6 : Hid (OL (wr.setCell ⟨g, d, none⟩ (.int .i64 b)) 3 w.heap.size (some ⟨g, 0, none⟩) co (P ++ List.replicate (m + 1) v ++ (List.replicate r b ++ F2))) := hide (by
                              have h1 := (O1.out.set_ d b).1
                              rw [PA.out] at h1
                              rw [← rep_next, show v :: (List.replicate r b ++ F2) = b :: (List.replicate r b ++ F2) by rw [EV.out]]
                              exact h1)
                            go_wp2
                            go_roundw
                            case rel => exact ⟨m + 1, r, by have := HMR.out; omega, by have := HD.out; rw [show ((p + (m + 1) : Nat) : Int) = (d : Int) + 1 by omega], O6.out, bl_set hbl hgB _⟩
                            case measure => simp [intOf]; omega
                      · cases q : (b == x2)
                        · have CC2 := hide (CC.out hkN)
                          obtain ⟨n, hn⟩ : ∃ n, n = cls s[k] := ⟨_, rfl⟩
                          have qn := NC.out hkN
                          rw [← hn] at qn CC2
                          have cK := CK.out hkN
                          clear hn CC NC CK
                          go_wp2_with (go_at_call 52; (with_reducible refine (CC2.out _).mono ?_); rintro e w' ⟨rfl, rfl⟩)
                          go_loopw [13] (fun i u => ∃ (m r : Nat), p + m + r = k ∧ i = .int .i64 ((p + m : Nat) : Int) ∧ OL u 3 w.heap.size (some ⟨g, 0, none⟩) co (P ++ List.replicate m v ++ (List.replicate r b ++ F2)) ∧ Below w.heap.size w u) (fun i _ => k - (intOf i).toNat)
                          case atStart => exact ⟨0, k - p, by omega, by go_num, OO.out, hbl⟩
                          case round =>
                            clear hbl hgw
                            obtain ⟨m, r, hmr, rfl, hol, hbl⟩ := hrel
                            obtain ⟨d, hd⟩ : ∃ d, d = p + m := ⟨_, rfl⟩
                            rw [← hd]
                            rcases Nat.eq_zero_or_pos r with hr | hr
                            · subst hr
                              have O5 : Hid (OL wr 3 w.heap.size (some ⟨g, 0, none⟩) co (P ++ List.replicate (k - p) v ++ fx b last (s.data.toList.drop k))) := hide (by
                                rw [show k - p = m by omega, ← HF2.out]; simpa using hol)
                              have hdk : ¬ d < k := by omega
                              clear hol hmr hd
                              go_wp2
                              go_roundw
                              case rel => exact ⟨k, last, v, P ++ List.replicate (k - p) v, hk, hvi, fun h => by omega, fun _ => PV.out, by have := HPP.out; simp; omega, rfl, O5.out, T2.out, hbl⟩
                              case measure => simp [intOf]; omega
                            · obtain ⟨r, rfl⟩ : ∃ r', r = r' + 1 := ⟨r - 1, by omega⟩
                              have hPl := HPP.out
                              rw [List.replicate_succ, List.cons_append] at hol
                              obtain ⟨b', o', he, _, hc⟩ := hol.reads.at_ (i := d) (by simp; omega)
                              obtain ⟨g', he', _, _, hfz⟩ := hol.frozen (by rw [List.length_append, List.length_cons]; omega)
                              injection he with he; injection he' with he'
                              cases he; cases he'
                              have fz := hfz d
                              rw [Nat.zero_add] at hc
                              obtain ⟨cv, hcv⟩ : ∃ cv, cv = ng (P ++ List.replicate m v ++ b :: (List.replicate r b ++ F2)) d := ⟨_, rfl⟩
                              rw [← hcv] at hc
                              have hdP : d = P.length + m := by omega
                              have PA := fun x y => put_at (P := P) (Q := List.replicate r b ++ F2) (v := v) (x := x) (y := y) (j := m)
                              rw [← hdP] at PA
                              have PA := hide PA
                              have O1 := hide hol
                              have HD := hide hd
                              have HMR := hide hmr
                              have hdk : d < k := by omega
                              clear hfz hol hcv hdP hPl hd hmr
                              have O6 : Hid (OL (wr.setCell ⟨g, d, none⟩ (.int .i64 b)) 3 w.heap.size (some ⟨g, 0, none⟩) co (P ++ List.replicate (m + 1) v ++ (List.replicate r b ++ F2))) := hide (by
                                have h1 := (O1.out.set_ d b).1
                                rw [PA.out] at h1
                                rw [← rep_next, show v :: (List.replicate r b ++ F2) = b :: (List.replicate r b ++ F2) by rw [EV.out]]
                                exact h1)
                              go_wp2
                              go_roundw
                              case rel => exact ⟨m + 1, r, by have := HMR.out; omega, by have := HD.out; rw [show ((p + (m + 1) : Nat) : Int) = (d : Int) + 1 by omega], O6.out, bl_set hbl hgB _⟩
                              case measure => simp [intOf]; omega
                        · have CC2 := hide (CC.out hkN)
                          obtain ⟨n, hn⟩ : ∃ n, n = cls s[k] := ⟨_, rfl⟩
                          have qn := NC.out hkN
                          rw [← hn] at qn CC2
                          have cK := CK.out hkN
                          clear hn CC NC CK
                          go_wp2_with (go_at_call 52; (with_reducible refine (CC2.out _).mono ?_); rintro e w' ⟨rfl, rfl⟩)
                          go_loopw [13] (fun i u => ∃ (m r : Nat), p + m + r = k ∧ i = .int .i64 ((p + m : Nat) : Int) ∧ OL u 3 w.heap.size (some ⟨g, 0, none⟩) co (P ++ List.replicate m v ++ (List.replicate r b ++ F2)) ∧ Below w.heap.size w u) (fun i _ => k - (intOf i).toNat)
                          case atStart => exact ⟨0, k - p, by omega, by go_num, OO.out, hbl⟩
                          case round =>
                            clear hbl hgw
                            obtain ⟨m, r, hmr, rfl, hol, hbl⟩ := hrel
                            obtain ⟨d, hd⟩ : ∃ d, d = p + m := ⟨_, rfl⟩
                            rw [← hd]
                            rcases Nat.eq_zero_or_pos r with hr | hr
                            · subst hr
                              have O5 : Hid (OL wr 3 w.heap.size (some ⟨g, 0, none⟩) co (P ++ List.replicate (k - p) v ++ fx b last (s.data.toList.drop k))) := hide (by
                                rw [show k - p = m by omega, ← HF2.out]; simpa using hol)
                              have hdk : ¬ d < k := by omega
                              clear hol hmr hd
                              go_wp2
                              go_roundw
                              case rel => exact ⟨k, last, v, P ++ List.replicate (k - p) v, hk, hvi, fun h => by omega, fun _ => PV.out, by have := HPP.out; simp; omega, rfl, O5.out, T2.out, hbl⟩
                              case measure => simp [intOf]; omega
                            · obtain ⟨r, rfl⟩ : ∃ r', r = r' + 1 := ⟨r - 1, by omega⟩
                              have hPl := HPP.out
                              rw [List.replicate_succ, List.cons_append] at hol
                              obtain ⟨b', o', he, _, hc⟩ := hol.reads.at_ (i := d) (by simp; omega)
                              obtain ⟨g', he', _, _, hfz⟩ := hol.frozen (by rw [List.length_append, List.length_cons]; omega)
                              injection he with he; injection he' with he'
                              cases he; cases he'
                              have fz := hfz d
                              rw [Nat.zero_add] at hc
                              obtain ⟨cv, hcv⟩ : ∃ cv, cv = ng (P ++ List.replicate m v ++ b :: (List.replicate r b ++ F2)) d := ⟨_, rfl⟩
                              rw [← hcv] at hc
                              have hdP : d = P.length + m := by omega
                              have PA := fun x y => put_at (P := P) (Q := List.replicate r b ++ F2) (v := v) (x := x) (y := y) (j := m)
                              rw [← hdP] at PA
                              have PA := hide PA
                              have O1 := hide hol
                              have HD := hide hd
                              have HMR := hide hmr
                              have hdk : d < k := by omega
                              clear hfz hol hcv hdP hPl hd hmr
                              have O6 : Hid (OL (wr.setCell ⟨g, d, none⟩ (.int .i64 b)) 3 w.heap.size (some ⟨g, 0, none⟩) co (P ++ List.replicate (m + 1) v ++ (List.replicate r b ++ F2))) := hide (by
                                have h1 := (O1.out.set_ d b).1
                                rw [PA.out] at h1
                                rw [← rep_next, show v :: (List.replicate r b ++ F2) = b :: (List.replicate r b ++ F2) by rw [EV.out]]
                                exact h1)
                              go_wp2
                              go_roundw
                              case rel => exact ⟨m + 1, r, by have := HMR.out; omega, by have := HD.out; rw [show ((p + (m + 1) : Nat) : Int) = (d : Int) + 1 by omega], O6.out, bl_set hbl hgB _⟩
                              case measure => simp [intOf]; omega
                    · obtain ⟨pm, hpm⟩ : ∃ pm, p = pm + 1 := ⟨p - 1, by omega⟩
                      have cpm := CP.out pm hpm
                      have ep : (p : Int) - 1 = (pm : Int) := by omega
                      have hpm2 : pm < s.size := by omega
                      have hpmk : pm < k := by omega
                      clear CP hpm
                      rcases (by omega : ¬ k < s.size ∨ k < s.size) with hkN | hkN
                      · have EV : Hid (v = b) := hide (VN.out (fun h => h.2 (by rw [h.1]; exact AB.out (AN.out (by omega)))))
                        clear CC NC CK e2
                        cases q : (x1 == b)
                        · have q2 : (x1 != b) = true := by simp at q ⊢; exact q
                          go_wp2
                          go_loopw [13] (fun i u => ∃ (m r : Nat), p + m + r = k ∧ i = .int .i64 ((p + m : Nat) : Int) ∧ OL u 3 w.heap.size (some ⟨g, 0, none⟩) co (P ++ List.replicate m v ++ (List.replicate r b ++ F2)) ∧ Below w.heap.size w u) (fun i _ => k - (intOf i).toNat)
                          case atStart => exact ⟨0, k - p, by omega, by go_num, OO.out, hbl⟩
                          case round =>
                            clear hbl hgw
                            obtain ⟨m, r, hmr, rfl, hol, hbl⟩ := hrel
                            obtain ⟨d, hd⟩ : ∃ d, d = p + m := ⟨_, rfl⟩
                            rw [← hd]
                            rcases Nat.eq_zero_or_pos r with hr | hr
                            · subst hr
                              have O5 : Hid (OL wr 3 w.heap.size (some ⟨g, 0, none⟩) co (P ++ List.replicate (k - p) v ++ fx b last (s.data.toList.drop k))) := hide (by
                                rw [show k - p = m by omega, ← HF2.out]; simpa using hol)
                              have hdk : ¬ d < k := by omega
                              clear hol hmr hd
                              go_wp2
                              go_roundw
                              case rel => exact ⟨k, last, v, P ++ List.replicate (k - p) v, hk, hvi, fun h => by omega, fun _ => PV.out, by have := HPP.out; simp; omega, rfl, O5.out, T2.out, hbl⟩
                              case measure => simp [intOf]; omega
                            · obtain ⟨r, rfl⟩ : ∃ r', r = r' + 1 := ⟨r - 1, by omega⟩
                              have hPl := HPP.out
                              rw [List.replicate_succ, List.cons_append] at hol
                              obtain ⟨b', o', he, _, hc⟩ := hol.reads.at_ (i := d) (by simp; omega)
                              obtain ⟨g', he', _, _, hfz⟩ := hol.frozen (by rw [List.length_append, List.length_cons]; omega)
                              injection he with he; injection he' with he'
                              cases he; cases he'
                              have fz := hfz d
                              rw [Nat.zero_add] at hc
                              obtain ⟨cv, hcv⟩ : ∃ cv, cv = ng (P ++ List.replicate m v ++ b :: (List.replicate r b ++ F2)) d := ⟨_, rfl⟩
                              rw [← hcv] at hc
                              have hdP : d = P.length + m := by omega
                              have PA := fun x y => put_at (P := P) (Q := List.replicate r b ++ F2) (v := v) (x := x) (y := y) (j := m)
                              rw [← hdP] at PA
                              have PA := hide PA
                              have O1 := hide hol
                              have HD := hide hd
                              have HMR := hide hmr
                              have hdk : d < k := by omega
                              clear hfz hol hcv hdP hPl hd hmr
                              have O6 : Hid (OL (wr.setCell ⟨g, d, none⟩ (.int .i64 b)) 3 w.heap.size (some ⟨g, 0, none⟩) co (P ++ List.replicate (m + 1) v ++ (List.replicate r b ++ F2))) := hide (by
                                have h1 := (O1.out.set_ d b).1
                                rw [PA.out] at h1
                                rw [← rep_next, show v :: (List.replicate r b ++ F2) = b :: (List.replicate r b ++ F2) by rw [EV.out]]
                                exact h1)
                              go_wp2
                              go_roundw
                              case rel => exact ⟨m + 1, r, by have := HMR.out; omega, by have := HD.out; rw [show ((p + (m + 1) : Nat) : Int) = (d : Int) + 1 by omega], O6.out, bl_set hbl hgB _⟩
                              case measure => simp [intOf]; omega
                        · have q2 : (x1 != b) = false := by simp at q ⊢; exact q
                          go_wp2
                          go_loopw [13] (fun i u => ∃ (m r : Nat), p + m + r = k ∧ i = .int .i64 ((p + m : Nat) : Int) ∧ OL u 3 w.heap.size (some ⟨g, 0, none⟩) co (P ++ List.replicate m v ++ (List.replicate r b ++ F2)) ∧ Below w.heap.size w u) (fun i _ => k - (intOf i).toNat)
                          case atStart => exact ⟨0, k - p, by omega, by go_num, OO.out, hbl⟩
                          case round =>
                            clear hbl hgw
                            obtain ⟨m, r, hmr, rfl, hol, hbl⟩ := hrel
                            obtain ⟨d, hd⟩ : ∃ d, d = p + m := ⟨_, rfl⟩
                            rw [← hd]
                            rcases Nat.eq_zero_or_pos r with hr | hr
                            · subst hr
                              have O5 : Hid (OL wr 3 w.heap.size (some ⟨g, 0, none⟩) co (P ++ List.replicate (k - p) v ++ fx b last (s.data.toList.drop k))) := hide (by
                                rw [show k - p = m by omega, ← HF2.out]; simpa using hol)
                              have hdk : ¬ d < k := by omega
                              clear hol hmr hd
                              go_wp2
                              go_roundw
                              case rel => exact ⟨k, last, v, P ++ List.replicate (k - p) v, hk, hvi, fun h => by omega, fun _ => PV.out, by have := HPP.out; simp; omega, rfl, O5.out, T2.out, hbl⟩
                              case measure => simp [intOf]; omega
                            · obtain ⟨r, rfl⟩ : ∃ r', r = r' + 1 := ⟨r - 1, by omega⟩
                              have hPl := HPP.out
                              rw [List.replicate_succ, List.cons_append] at hol
                              obtain ⟨b', o', he, _, hc⟩ := hol.reads.at_ (i := d) (by simp; omega)
                              obtain ⟨g', he', _, _, hfz⟩ := hol.frozen (by rw [List.length_append, List.length_cons]; omega)
                              injection he with he; injection he' with he'
                              cases he; cases he'
                              have fz := hfz d
                              rw [Nat.zero_add] at hc
                              obtain ⟨cv, hcv⟩ : ∃ cv, cv = ng (P ++ List.replicate m v ++ b :: (List.replicate r b ++ F2)) d := ⟨_, rfl⟩
                              rw [← hcv] at hc
                              have hdP : d = P.length + m := by omega
                              have PA := fun x y => put_at (P := P) (Q := List.replicate r b ++ F2) (v := v) (x := x) (y := y) (j := m)
                              rw [← hdP] at PA
                              have PA := hide PA
                              have O1 := hide hol
                              have HD := hide hd
                              have HMR := hide hmr
                              have hdk : d < k := by omega
                              clear hfz hol hcv hdP hPl hd hmr
                              have O6 : Hid (OL (wr.setCell ⟨g, d, none⟩ (.int .i64 b)) 3 w.heap.size (some ⟨g, 0, none⟩) co (P ++ List.replicate (m + 1) v ++ (List.replicate r b ++ F2))) := hide (by
                                have h1 := (O1.out.set_ d b).1
                                rw [PA.out] at h1
                                rw [← rep_next, show v :: (List.replicate r b ++ F2) = b :: (List.replicate r b ++ F2) by rw [EV.out]]
                                exact h1)
                              go_wp2
                              go_roundw
                              case rel => exact ⟨m + 1, r, by have := HMR.out; omega, by have := HD.out; rw [show ((p + (m + 1) : Nat) : Int) = (d : Int) + 1 by omega], O6.out, bl_set hbl hgB _⟩
                              case measure => simp [intOf]; omega
                      · have CC2 := hide (CC.out hkN)
                        obtain ⟨n, hn⟩ : ∃ n, n = cls s[k] := ⟨_, rfl⟩
                        have qn := NC.out hkN
                        rw [← hn] at qn CC2
                        have cK := CK.out hkN
                        clear hn CC NC CK
                        cases q : (x1 == x2)
                        · have EV : Hid (v = b) := hide (VN.out (fun h => by simp at q; exact q h.1))
                          go_wp2_with (go_at_call 52; (with_reducible refine (CC2.out _).mono ?_); rintro e w' ⟨rfl, rfl⟩)
                          go_loopw [13] (fun i u => ∃ (m r : Nat), p + m + r = k ∧ i = .int .i64 ((p + m : Nat) : Int) ∧ OL u 3 w.heap.size (some ⟨g, 0, none⟩) co (P ++ List.replicate m v ++ (List.replicate r b ++ F2)) ∧ Below w.heap.size w u) (fun i _ => k - (intOf i).toNat)
                          case atStart => exact ⟨0, k - p, by omega, by go_num, OO.out, hbl⟩
                          case round =>
                            clear hbl hgw
                            obtain ⟨m, r, hmr, rfl, hol, hbl⟩ := hrel
                            obtain ⟨d, hd⟩ : ∃ d, d = p + m := ⟨_, rfl⟩
                            rw [← hd]
                            rcases Nat.eq_zero_or_pos r with hr | hr
                            · subst hr
                              have O5 : Hid (OL wr 3 w.heap.size (some ⟨g, 0, none⟩) co (P ++ List.replicate (k - p) v ++ fx b last (s.data.toList.drop k))) := hide (by
                                rw [show k - p = m by omega, ← HF2.out]; simpa using hol)
                              have hdk : ¬ d < k := by omega
                              clear hol hmr hd
                              go_wp2
                              go_roundw
                              case rel => exact ⟨k, last, v, P ++ List.replicate (k - p) v, hk, hvi, fun h => by omega, fun _ => PV.out, by have := HPP.out; simp; omega, rfl, O5.out, T2.out, hbl⟩
                              case measure => simp [intOf]; omega
                            · obtain ⟨r, rfl⟩ : ∃ r', r = r' + 1 := ⟨r - 1, by omega⟩
                              have hPl := HPP.out
                              rw [List.replicate_succ, List.cons_append] at hol
                              obtain ⟨b', o', he, _, hc⟩ := hol.reads.at_ (i := d) (by simp; omega)
                              obtain ⟨g', he', _, _, hfz⟩ := hol.frozen (by rw [List.length_append, List.length_cons]; omega)
                              injection he with he; injection he' with he'
                              cases he; cases he'
                              have fz := hfz d
                              rw [Nat.zero_add] at hc
                              obtain ⟨cv, hcv⟩ : ∃ cv, cv = ng (P ++ List.replicate m v ++ b :: (List.replicate r b ++ F2)) d := ⟨_, rfl⟩
                              rw [← hcv] at hc
                              have hdP : d = P.length + m := by omega
                              have PA := fun x y => put_at (P := P) (Q := List.replicate r b ++ F2) (v := v) (x := x) (y := y) (j := m)
                              rw [← hdP] at PA
                              have PA := hide PA
                              have O1 := hide hol
                              have HD := hide hd
                              have HMR := hide hmr
                              have hdk : d < k := by omega
                              clear hfz hol hcv hdP hPl hd hmr
                              have O6 : Hid (OL (wr.setCell ⟨g, d, none⟩ (.int .i64 b)) 3 w.heap.size (some ⟨g, 0, none⟩) co (P ++ List.replicate (m + 1) v ++ (List.replicate r b ++ F2))) := hide (by
                                have h1 := (O1.out.set_ d b).1
                                rw [PA.out] at h1
                                rw [← rep_next, show v :: (List.replicate r b ++ F2) = b :: (List.replicate r b ++ F2) by rw [EV.out]]
                                exact h1)
                              go_wp2
                              go_roundw
                              case rel => exact ⟨m + 1, r, by have := HMR.out; omega, by have := HD.out; rw [show ((p + (m + 1) : Nat) : Int) = (d : Int) + 1 by omega], O6.out, bl_set hbl hgB _⟩
                              case measure => simp [intOf]; omega
                        · cases q2 : (x1 != b)
                          · have EV : Hid (v = b) := hide (VN.out (fun h => by simp at q2; exact h.2 q2))
                            go_wp2_with (go_at_call 52; (with_reducible refine (CC2.out _).mono ?_); rintro e w' ⟨rfl, rfl⟩)
                            go_loopw [13] (fun i u => ∃ (m r : Nat), p + m + r = k ∧ i = .int .i64 ((p + m : Nat) : Int) ∧ OL u 3 w.heap.size (some ⟨g, 0, none⟩) co (P ++ List.replicate m v ++ (List.replicate r b ++ F2)) ∧ Below w.heap.size w u) (fun i _ => k - (intOf i).toNat)
                            case atStart => exact ⟨0, k - p, by omega, by go_num, OO.out, hbl⟩
                            case round =>
                              clear hbl hgw
                              obtain ⟨m, r, hmr, rfl, hol, hbl⟩ := hrel
                              obtain ⟨d, hd⟩ : ∃ d, d = p + m := ⟨_, rfl⟩
                              rw [← hd]
                              rcases Nat.eq_zero_or_pos r with hr | hr
                              · subst hr
                                have O5 : Hid (OL wr 3 w.heap.size (some ⟨g, 0, none⟩) co (P ++ List.replicate (k - p) v ++ fx b last (s.data.toList.drop k))) := hide (by
                                  rw [show k - p = m by omega, ← HF2.out]; simpa using hol)
                                have hdk : ¬ d < k := by omega
                                clear hol hmr hd
                                go_wp2
                                go_roundw
                                case rel => exact ⟨k, last, v, P ++ List.replicate (k - p) v, hk, hvi, fun h => by omega, fun _ => PV.out, by have := HPP.out; simp; omega, rfl, O5.out, T2.out, hbl⟩
                                case measure => simp [intOf]; omega
                              · obtain ⟨r, rfl⟩ : ∃ r', r = r' + 1 := ⟨r - 1, by omega⟩
                                have hPl := HPP.out
                                rw [List.replicate_succ, List.cons_append] at hol
                                obtain ⟨b', o', he, _, hc⟩ := hol.reads.at_ (i := d) (by simp; omega)
                                obtain ⟨g', he', _, _, hfz⟩ := hol.frozen (by rw [List.length_append, List.length_cons]; omega)
                                injection he with he; injection he' with he'
                                cases he; cases he'
                                have fz := hfz d
                                rw [Nat.zero_add] at hc
                                obtain ⟨cv, hcv⟩ : ∃ cv, cv = ng (P ++ List.replicate m v ++ b :: (List.replicate r b ++ F2)) d := ⟨_, rfl⟩
                                rw [← hcv] at hc
                                have hdP : d = P.length + m := by omega
                                have PA := fun x y => put_at (P := P) (Q := List.replicate r b ++ F2) (v := v) (x := x) (y := y) (j := m)
                                rw [← hdP] at PA
                                have PA := hide PA
                                have O1 := hide hol
                                have HD := hide hd
                                have HMR := hide hmr
                                have hdk : d < k := by omega
                                clear hfz hol hcv hdP hPl hd hmr
                                have O6 : Hid (OL (wr.setCell ⟨g, d, none⟩ (.int .i64 b)) 3 w.heap.size (some ⟨g, 0, none⟩) co (P ++ List.replicate (m + 1) v ++ (List.replicate r b ++ F2))) := hide (by
                                  have h1 := (O1.out.set_ d b).1
                                  rw [PA.out] at h1
                                  rw [← rep_next, show v :: (List.replicate r b ++ F2) = b :: (List.replicate r b ++ F2) by rw [EV.out]]
                                  exact h1)
                                go_wp2
                                go_roundw
                                case rel => exact ⟨m + 1, r, by have := HMR.out; omega, by have := HD.out; rw [show ((p + (m + 1) : Nat) : Int) = (d : Int) + 1 by omega], O6.out, bl_set hbl hgB _⟩
                                case measure => simp [intOf]; omega
                          · cases qb : (b == 1)
                            · have EV : Hid (v = 1 - b) := hide (by rw [VY.out (by simpa using q) (by simpa using q2), if_neg (by simpa using qb)])
                              go_wp2_with (go_at_call 52; (with_reducible refine (CC2.out _).mono ?_); rintro e w' ⟨rfl, rfl⟩)
                              go_loopw [13] (fun i u => ∃ (m r : Nat), p + m + r = k ∧ i = .int .i64 ((p + m : Nat) : Int) ∧ OL u 3 w.heap.size (some ⟨g, 0, none⟩) co (P ++ List.replicate m v ++ (List.replicate r b ++ F2)) ∧ Below w.heap.size w u) (fun i _ => k - (intOf i).toNat)
                              case atStart => exact ⟨0, k - p, by omega, by go_num, OO.out, hbl⟩
                              case round =>
                                clear hbl hgw
                                obtain ⟨m, r, hmr, rfl, hol, hbl⟩ := hrel
                                obtain ⟨d, hd⟩ : ∃ d, d = p + m := ⟨_, rfl⟩
                                rw [← hd]
                                rcases Nat.eq_zero_or_pos r with hr | hr
                                · subst hr
                                  have O5 : Hid (OL wr 3 w.heap.size (some ⟨g, 0, none⟩) co (P ++ List.replicate (k - p) v ++ fx b last (s.data.toList.drop k))) := hide (by
                                    rw [show k - p = m by omega, ← HF2.out]; simpa using hol)
                                  have hdk : ¬ d < k := by omega
                                  clear hol hmr hd
                                  go_wp2
                                  go_roundw
                                  case rel => exact ⟨k, last, v, P ++ List.replicate (k - p) v, hk, hvi, fun h => by omega, fun _ => PV.out, by have := HPP.out; simp; omega, rfl, O5.out, T2.out, hbl⟩
                                  case measure => simp [intOf]; omega
                                · obtain ⟨r, rfl⟩ : ∃ r', r = r' + 1 := ⟨r - 1, by omega⟩
                                  have hPl := HPP.out
                                  rw [List.replicate_succ, List.cons_append] at hol
                                  obtain ⟨b', o', he, _, hc⟩ := hol.reads.at_ (i := d) (by simp; omega)
                                  obtain ⟨g', he', _, _, hfz⟩ := hol.frozen (by rw [List.length_append, List.length_cons]; omega)
                                  injection he with he; injection he' with he'
                                  cases he; cases he'
                                  have fz := hfz d
                                  rw [Nat.zero_add] at hc
                                  obtain ⟨cv, hcv⟩ : ∃ cv, cv = ng (P ++ List.replicate m v ++ b :: (List.replicate r b ++ F2)) d := ⟨_, rfl⟩
                                  rw [← hcv] at hc
                                  have hdP : d = P.length + m := by omega
                                  have PA := fun x y => put_at (P := P) (Q := List.replicate r b ++ F2) (v := v) (x := x) (y := y) (j := m)
                                  rw [← hdP] at PA
                                  have PA := hide PA
                                  have O1 := hide hol
                                  have HD := hide hd
                                  have HMR := hide hmr
                                  have hdk : d < k := by omega
                                  clear hfz hol hcv hdP hPl hd hmr
                                  have O6 : Hid (OL ((wr.setCell ⟨g, d, none⟩ (.int .i64 b)).setCell ⟨g, d, none⟩ (.int .i64 (1 - b))) 3 w.heap.size (some ⟨g, 0, none⟩) co (P ++ List.replicate (m + 1) v ++ (List.replicate r b ++ F2))) := hide (by
                                    have h1 := ((O1.out.set_ d b).1.set_ d (1 - b)).1
                                    rw [PA.out, PA.out] at h1
                                    rw [← rep_next, show v :: (List.replicate r b ++ F2) = (1 - b) :: (List.replicate r b ++ F2) by rw [EV.out]]
                                    exact h1)
                                  go_wp2
                                  go_roundw
                                  case rel => exact ⟨m + 1, r, by have := HMR.out; omega, by have := HD.out; rw [show ((p + (m + 1) : Nat) : Int) = (d : Int) + 1 by omega], O6.out, bl_set (bl_set hbl hgB _) hgB _⟩
                                  case measure => simp [intOf]; omega
                            · have EV : Hid (v = 2) := hide (by rw [VY.out (by simpa using q) (by simpa using q2), if_pos (by simpa using qb)])
                              go_wp2_with (go_at_call 52; (with_reducible refine (CC2.out _).mono ?_); rintro e w' ⟨rfl, rfl⟩)
                              go_loopw [13] (fun i u => ∃ (m r : Nat), p + m + r = k ∧ i = .int .i64 ((p + m : Nat) : Int) ∧ OL u 3 w.heap.size (some ⟨g, 0, none⟩) co (P ++ List.replicate m v ++ (List.replicate r b ++ F2)) ∧ Below w.heap.size w u) (fun i _ => k - (intOf i).toNat)
                              case atStart => exact ⟨0, k - p, by omega, by go_num, OO.out, hbl⟩
                              case round =>
                                clear hbl hgw
                                obtain ⟨m, r, hmr, rfl, hol, hbl⟩ := hrel
                                obtain ⟨d, hd⟩ : ∃ d, d = p + m := ⟨_, rfl⟩
                                rw [← hd]
                                rcases Nat.eq_zero_or_pos r with hr | hr
                                · subst hr
                                  have O5 : Hid (OL wr 3 w.heap.size (some ⟨g, 0, none⟩) co (P ++ List.replicate (k - p) v ++ fx b last (s.data.toList.drop k))) := hide (by
                                    rw [show k - p = m by omega, ← HF2.out]; simpa using hol)
                                  have hdk : ¬ d < k := by omega
                                  clear hol hmr hd
                                  go_wp2
                                  go_roundw
                                  case rel => exact ⟨k, last, v, P ++ List.replicate (k - p) v, hk, hvi, fun h => by omega, fun _ => PV.out, by have := HPP.out; simp; omega, rfl, O5.out, T2.out, hbl⟩
                                  case measure => simp [intOf]; omega
                                · obtain ⟨r, rfl⟩ : ∃ r', r = r' + 1 := ⟨r - 1, by omega⟩
                                  have hPl := HPP.out
                                  rw [List.replicate_succ, List.cons_append] at hol
                                  obtain ⟨b', o', he, _, hc⟩ := hol.reads.at_ (i := d) (by simp; omega)
                                  obtain ⟨g', he', _, _, hfz⟩ := hol.frozen (by rw [List.length_append, List.length_cons]; omega)
                                  injection he with he; injection he' with he'
                                  cases he; cases he'
                                  have fz := hfz d
                                  rw [Nat.zero_add] at hc
                                  obtain ⟨cv, hcv⟩ : ∃ cv, cv = ng (P ++ List.replicate m v ++ b :: (List.replicate r b ++ F2)) d := ⟨_, rfl⟩
                                  rw [← hcv] at hc
                                  have hdP : d = P.length + m := by omega
                                  have PA := fun x y => put_at (P := P) (Q := List.replicate r b ++ F2) (v := v) (x := x) (y := y) (j := m)
                                  rw [← hdP] at PA
                                  have PA := hide PA
                                  have O1 := hide hol
                                  have HD := hide hd
                                  have HMR := hide hmr
                                  have hdk : d < k := by omega
                                  clear hfz hol hcv hdP hPl hd hmr
                                  have O6 : Hid (OL (((wr.setCell ⟨g, d, none⟩ (.int .i64 b)).setCell ⟨g, d, none⟩ (.int .i64 (1 - b))).setCell ⟨g, d, none⟩ (.int .i64 2)) 3 w.heap.size (some ⟨g, 0, none⟩) co (P ++ List.replicate (m + 1) v ++ (List.replicate r b ++ F2))) := hide (by
                                    have h1 := (((O1.out.set_ d b).1.set_ d (1 - b)).1.set_ d 2).1
                                    rw [PA.out, PA.out, PA.out] at h1
                                    rw [← rep_next, show v :: (List.replicate r b ++ F2) = 2 :: (List.replicate r b ++ F2) by rw [EV.out]]
                                    exact h1)
                                  go_wp2
                                  go_roundw
                                  case rel => exact ⟨m + 1, r, by have := HMR.out; omega, by have := HD.out; rw [show ((p + (m + 1) : Nat) : Int) = (d : Int) + 1 by omega], O6.out, bl_set (bl_set (bl_set hbl hgB _) hgB _) hgB _⟩
                                  case measure => simp [intOf]; omega
            · have hd0 : s.data.toList.drop p = [] := List.drop_eq_nil_of_le (by rw [txt_len]; omega)
              have EE : P = T := by rw [hT, hd0, lvs_nil]; simp
              have O9 : Hid (OL wr 3 w.heap.size Ao co T) := hide (by rw [hd0, show fx b last [] = [] from rfl, List.append_nil, EE] at hol; exact hol)
              clear hol hT hd0 EE hP hbe0 hbeP
              go_wp2
              go_ret
              exact ⟨Ao, co, by rw [HTl.out]; rfl, O9.out, hbl⟩
end Go.Proofs.Yteoiphjkkcjddaa
