/- Sums of lists, and pieces that are filled one after the other. -/
import Derived.Test.YtkclecfjpabplaaGlue
import Derived.Test.YtkclecfjpabplaaInts
import Derived.Test.YtkclecfjpabplaaFil
import Derived.Test.YtkclecfjpabplaaLines
namespace Go.Proofs.Ytkclecfjpabplaa
open Go.ChangeShapes Go.WideShapes Go.ChangeAt Go.RowKit
set_option linter.unusedVariables false

/-- The numbers from the f-th up to the t-th. -/
theorem ng_sub {l : List Int} {f t i : Nat} (hi : i < t - f) : ng ((l.drop f).take (t - f)) i = ng l (f + i) := by
  simp [ng, List.getD, List.getElem?_take, hi, List.getElem?_drop]
theorem IL.sub {w : World} {b o : Nat} {l : List Int} {f t : Nat} (h : IL w (some ⟨b, o, none⟩) l.length l) (hft : f ≤ t) (ht : t ≤ l.length) : IL w (some ⟨b, o + f, none⟩) (t - f) ((l.drop f).take (t - f)) := by
  refine ⟨by simp; omega, fun h0 => ?_⟩
  obtain ⟨b', o', e, hb, hc⟩ := h.2 (by omega)
  injection e with e
  cases e
  refine ⟨b, _, rfl, hb, fun i hi => ?_⟩
  rw [ng_sub hi, ← hc (f + i) (by omega), Nat.add_assoc o]
theorem sumOf_i (w : World) (A : Option Addr) (n c : Nat) (l : List Int) (ha : IL w A n l) (hl : l.length ≤ 1000) (hb : ∀ j, j < l.length → 0 ≤ ng l j ∧ ng l j ≤ 100000) :
    Calls Try.prog 59 #[.slice A n c] w fun e w' => e = .returned (.int .i64 (sl l)) ∧ w' = w := by
  obtain rfl : n = l.length := ha.1
  have HB := hide hb
  clear hb
  go_enter Try.func59, Try.ntmps59
  go_wp2
  go_loop [3, 8] (fun v i => ∃ p : Nat, p ≤ l.length ∧ v = .int .i64 (pfx l p) ∧ i = .int .i64 p) (fun _ i => l.length - (intOf i).toNat)
  case atStart => exact ⟨0, by omega, rfl, rfl⟩
  case round =>
    obtain ⟨p, hp, rfl, rfl⟩ := hrel
    obtain ⟨b1, b2⟩ := pfx_bd HB.out hp
    obtain ⟨y, hy⟩ : ∃ y, y = pfx l p := ⟨_, rfl⟩
    rw [← hy] at b1 b2
    rw [← hy]
    have HY := hide hy
    clear hy
    have b3 : y ≤ 100000000 := by omega
    clear b2
    by_cases hlt : p < l.length
    · obtain ⟨b, o, rfl, _, hc⟩ := ha.at_ hlt
      obtain ⟨x0, x1⟩ := HB.out p hlt
      obtain ⟨x, hx⟩ : ∃ x, x = ng l p := ⟨_, rfl⟩
      rw [← hx] at hc x0 x1
      have HX := hide hx
      clear hx
      go_wp2
      go_round
      case rel => exact ⟨p + 1, by omega, by rw [HY.out, HX.out]; rfl, by go_num⟩
      case measure => simp [intOf]; omega
    · have E : Hid (sl l = y) := hide (by rw [HY.out, show p = l.length from by omega, pfx_all])
      go_wp2
      go_ret
      exact ⟨int_ret E.out.symm, rfl⟩
theorem sum_l (w : World) (A : Option Addr) (n c : Nat) (l : List Int) (ha : IL w A n l) (hl : l.length ≤ 1000) (hb : ∀ j, j < l.length → 0 ≤ ng l j ∧ ng l j ≤ 100000) :
    Calls Try.prog 22 #[.slice A n c] w fun e w' => e = .returned (.int .i64 (sl l)) ∧ w' = w := by
  obtain rfl : n = l.length := ha.1
  have HB := hide hb
  clear hb
  go_enter Try.func22, Try.ntmps22
  go_wp2
  go_loop [3, 4] (fun v i => ∃ p : Nat, p ≤ l.length ∧ v = .int .i64 (pfx l p) ∧ i = .int .i64 p) (fun _ i => l.length - (intOf i).toNat)
  case atStart => exact ⟨0, by omega, rfl, rfl⟩
  case round =>
    obtain ⟨p, hp, rfl, rfl⟩ := hrel
    obtain ⟨b1, b2⟩ := pfx_bd HB.out hp
    obtain ⟨y, hy⟩ : ∃ y, y = pfx l p := ⟨_, rfl⟩
    rw [← hy] at b1 b2
    rw [← hy]
    have HY := hide hy
    clear hy
    have b3 : y ≤ 100000000 := by omega
    clear b2
    by_cases hlt : p < l.length
    · obtain ⟨b, o, rfl, _, hc⟩ := ha.at_ hlt
      obtain ⟨x0, x1⟩ := HB.out p hlt
      obtain ⟨x, hx⟩ : ∃ x, x = ng l p := ⟨_, rfl⟩
      rw [← hx] at hc x0 x1
      have HX := hide hx
      clear hx
      go_wp2
      go_round
      case rel => exact ⟨p + 1, by omega, by rw [HY.out, HX.out]; rfl, by go_num⟩
      case measure => simp [intOf]; omega
    · have E : Hid (sl l = y) := hide (by rw [HY.out, show p = l.length from by omega, pfx_all])
      go_wp2
      go_ret
      exact ⟨int_ret E.out.symm, rfl⟩

set_option maxHeartbeats 2000000 in
theorem fill_fillColumns_1 (w : World) (n : Nat) (v1 v2 : Value) (f : Nat → Nat → Bool) (hn : n ≤ 1000)
    (hf : ∀ (u : World) (p t : Nat), Below w.heap.size w u → p < t → t ≤ n → Calls Try.prog 95 #[.int .i64 p, .int .i64 t, v1, v2] u fun e u' => e = .returned (.bool (f p t)) ∧ Below u.heap.size u u') :
    Calls Try.prog 89 #[.int .i64 n, .func (.func 95) #[] #[v1, v2]] w fun e w' => ((∃ L A c, fil f n n 0 = some L ∧ e = .returned (.tuple #[.slice A L.length c, .bool true]) ∧ OL w' 3 w.heap.size A c L ∧ L.length ≤ n) ∨ (fil f n n 0 = none ∧ e = .returned (.tuple #[.slice none 0 0, .bool false]))) ∧ Below w.heap.size w w' := by
  obtain ⟨i0, hi0, jz0, jz1, jz2⟩ := info_parts int_info
  have HF := hide hf
  clear hf
  obtain ⟨T, hT⟩ : ∃ T, T = fil f n n 0 := ⟨_, rfl⟩
  have S0 : Hid (T = (fil f n n 0).map ([] ++ ·)) := hide (by rw [hT]; cases fil f n n 0 <;> simp)
  rw [← hT]
  clear hT
  go_enter Try.func89, Try.ntmps89
  go_wp2
  go_loopw [6, 7] (fun v i u => ∃ (p k q : Nat) (A : Option Addr) (cc : Nat) (l : List Int), p ≤ n ∧ n ≤ p + k ∧ i = .int .i64 p ∧ v = .slice A q cc ∧ q = l.length ∧ q ≤ p ∧ OL u 3 w.heap.size A cc l ∧ T = (fil f n k p).map (l ++ ·) ∧ Below w.heap.size w u) (fun _ i _ => n - (intOf i).toNat)
  case atStart => exact ⟨0, n, 0, none, 0, [], by omega, by omega, rfl, rfl, rfl, by omega, OL.nil _ _ _, S0.out, bl_refl _⟩
  case round =>
    obtain ⟨p, k, q, A, cc, l, hp, hk, rfl, rfl, hpl, hqp, hol, htt, hbl⟩ := hrel
    have HPL := hide hpl
    have HT := hide htt
    clear hpl htt
    by_cases hlt : p < n
    · have HOL := hide hol
      have HB := hide hbl
      clear hol hbl
      go_wp2
      go_loopw [8] (fun j u => ∃ t : Nat, p ≤ t ∧ t ≤ n ∧ j = .int .i64 t ∧ adv f p (n - p) p = adv f p (n - t) t ∧ OL u 3 w.heap.size A cc l ∧ Below w.heap.size w u) (fun j _ => n - (intOf j).toNat)
      case atStart => exact ⟨p, by omega, hp, rfl, rfl, HOL.out, HB.out⟩
      case round =>
        obtain ⟨t, hpt, htn, rfl, had, hol, hbl⟩ := hrel
        have HAD := hide had
        clear had HOL HB
        have hzw := hbl.size
        have LEAVE : Hid (adv f p (n - t) t = t → adv f p (n - p) p = t) := hide (fun h => HAD.out.trans h)
        by_cases htl : t < n
        · cases qf : f p (t + 1)
          · have EQ := hide (LEAVE.out (adv_no qf))
            have CF := HF.out wr p (t + 1) hbl (by omega) (by omega)
            rw [qf, show (((t + 1 : Nat)) : Int) = (t : Int) + 1 from by omega] at CF
            have HCF := hide CF
            clear CF LEAVE HAD qf
            have HOL := hide hol
            have HB := hide hbl
            rcases (by omega : t = p ∨ p < t) with h | h
            · have NO := hide (HT.out.trans (show (fil f n k p).map (l ++ ·) = none by rw [fil_no hlt (by omega) (EQ.out.trans h)]; rfl))
              subst h
              clear hol hbl
              go_wp2_with fail
              (with_reducible refine HCF.out.mono ?_)
              rintro e u1 ⟨rfl, hb⟩
              have HB1 := hide (bl_call hb HB.out)
              go_wp2
              go_ret2
              exact ⟨.inr ⟨NO.out, rfl⟩, HB1.out⟩
            · have g0 : ((t : Int) == (p : Int)) = false := beq_eq_false_iff_ne.2 (by omega)
              clear hol hbl
              go_wp2_with fail
              (with_reducible refine HCF.out.mono ?_)
              rintro e u1 ⟨rfl, hb⟩
              have hol1 := HOL.out.below hb
              have HB1 := hide (bl_call hb HB.out)
              have hz1 := HB1.out.size
              clear hb
              go_wp2_with (at_builtin; refine wpList_append_int rfl (.tmp 28) (.tmp 30) _ rfl 3 i0 Try.underlying22 hi0 jz0 jz1 jz2 w.heap.size A cc q l rfl (HPL.out) (hol1.alloc _) u1.heap.size t rfl (by simp) (by omega) (by simp; omega) ?_; intro A' c' w' hol' hb' hg')
              go_roundw
              case rel => exact ⟨t, k - 1, q + 1, A', c', l ++ [(t : Int)], by omega, by omega, rfl, rfl, by simp [HPL.out], by omega, hol', fil_snoc hlt hk EQ.out (by omega) HT.out, (bl_alloc HB1.out _).trans hb'⟩
              case measure => simp [intOf]; omega
          · have M := hide (HAD.out.trans (show adv f p (n - t) t = adv f p (n - (t + 1)) (t + 1) by rw [show n - t = (n - (t + 1)) + 1 from by omega, adv_yes qf]))
            have CF := HF.out wr p (t + 1) hbl (by omega) (by omega)
            rw [qf, show (((t + 1 : Nat)) : Int) = (t : Int) + 1 from by omega] at CF
            have HCF := hide CF
            clear CF LEAVE HAD qf
            have HOL := hide hol
            have HB := hide hbl
            clear hol hbl
            go_wp2_with fail
            (with_reducible refine HCF.out.mono ?_)
            rintro e u1 ⟨rfl, hb⟩
            have hol1 := HOL.out.below hb
            have HB1 := hide (bl_call hb HB.out)
            clear hb
            go_wp2
            go_roundw
            case rel => exact ⟨t + 1, by omega, by omega, by go_num, M.out, hol1, HB1.out⟩
            case measure => simp [intOf]; omega
        · have htn' : t = n := by omega
          have EQ := hide (LEAVE.out (by rw [htn', Nat.sub_self]; rfl))
          have g0 : ((t : Int) == (p : Int)) = false := beq_eq_false_iff_ne.2 (by omega)
          have HB1 := hide hbl
          clear LEAVE HAD hbl htn'
          go_wp2_with (at_builtin; refine wpList_append_int rfl (.tmp 28) (.tmp 30) _ rfl 3 i0 Try.underlying22 hi0 jz0 jz1 jz2 w.heap.size A cc q l rfl (HPL.out) (hol.alloc _) wr.heap.size t rfl (by simp) (by omega) (by simp; omega) ?_; intro A' c' w' hol' hb' hg')
          go_roundw
          case rel => exact ⟨t, k - 1, q + 1, A', c', l ++ [(t : Int)], by omega, by omega, rfl, rfl, by simp [HPL.out], by omega, hol', fil_snoc hlt hk EQ.out (by omega) HT.out, (bl_alloc HB1.out _).trans hb'⟩
          case measure => simp [intOf]; omega
    · have E := hide (HT.out.trans (show (fil f n k p).map (l ++ ·) = some l by rw [fil_end (by omega)]; simp))
      have HB := hide hbl
      go_wp2
      go_ret2
      exact ⟨.inl ⟨l, A, cc, E.out, by rw [← HPL.out]; rfl, hol, by rw [← HPL.out]; omega⟩, HB.out⟩
set_option maxHeartbeats 2000000 in
theorem fill_FillPages_1 (w : World) (n : Nat) (v1 v2 : Value) (f : Nat → Nat → Bool) (hn : n ≤ 1000)
    (hf : ∀ (u : World) (p t : Nat), Below w.heap.size w u → p < t → t ≤ n → Calls Try.prog 90 #[.int .i64 p, .int .i64 t, v1, v2] u fun e u' => e = .returned (.bool (f p t)) ∧ Below u.heap.size u u') :
    Calls Try.prog 89 #[.int .i64 n, .func (.func 90) #[] #[v1, v2]] w fun e w' => ((∃ L A c, fil f n n 0 = some L ∧ e = .returned (.tuple #[.slice A L.length c, .bool true]) ∧ OL w' 3 w.heap.size A c L ∧ L.length ≤ n) ∨ (fil f n n 0 = none ∧ e = .returned (.tuple #[.slice none 0 0, .bool false]))) ∧ Below w.heap.size w w' := by
  obtain ⟨i0, hi0, jz0, jz1, jz2⟩ := info_parts int_info
  have HF := hide hf
  clear hf
  obtain ⟨T, hT⟩ : ∃ T, T = fil f n n 0 := ⟨_, rfl⟩
  have S0 : Hid (T = (fil f n n 0).map ([] ++ ·)) := hide (by rw [hT]; cases fil f n n 0 <;> simp)
  rw [← hT]
  clear hT
  go_enter Try.func89, Try.ntmps89
  go_wp2
  go_loopw [6, 7] (fun v i u => ∃ (p k q : Nat) (A : Option Addr) (cc : Nat) (l : List Int), p ≤ n ∧ n ≤ p + k ∧ i = .int .i64 p ∧ v = .slice A q cc ∧ q = l.length ∧ q ≤ p ∧ OL u 3 w.heap.size A cc l ∧ T = (fil f n k p).map (l ++ ·) ∧ Below w.heap.size w u) (fun _ i _ => n - (intOf i).toNat)
  case atStart => exact ⟨0, n, 0, none, 0, [], by omega, by omega, rfl, rfl, rfl, by omega, OL.nil _ _ _, S0.out, bl_refl _⟩
  case round =>
    obtain ⟨p, k, q, A, cc, l, hp, hk, rfl, rfl, hpl, hqp, hol, htt, hbl⟩ := hrel
    have HPL := hide hpl
    have HT := hide htt
    clear hpl htt
    by_cases hlt : p < n
    · have HOL := hide hol
      have HB := hide hbl
      clear hol hbl
      go_wp2
      go_loopw [8] (fun j u => ∃ t : Nat, p ≤ t ∧ t ≤ n ∧ j = .int .i64 t ∧ adv f p (n - p) p = adv f p (n - t) t ∧ OL u 3 w.heap.size A cc l ∧ Below w.heap.size w u) (fun j _ => n - (intOf j).toNat)
      case atStart => exact ⟨p, by omega, hp, rfl, rfl, HOL.out, HB.out⟩
      case round =>
        obtain ⟨t, hpt, htn, rfl, had, hol, hbl⟩ := hrel
        have HAD := hide had
        clear had HOL HB
        have hzw := hbl.size
        have LEAVE : Hid (adv f p (n - t) t = t → adv f p (n - p) p = t) := hide (fun h => HAD.out.trans h)
        by_cases htl : t < n
        · cases qf : f p (t + 1)
          · have EQ := hide (LEAVE.out (adv_no qf))
            have CF := HF.out wr p (t + 1) hbl (by omega) (by omega)
            rw [qf, show (((t + 1 : Nat)) : Int) = (t : Int) + 1 from by omega] at CF
            have HCF := hide CF
            clear CF LEAVE HAD qf
            have HOL := hide hol
            have HB := hide hbl
            rcases (by omega : t = p ∨ p < t) with h | h
            · have NO := hide (HT.out.trans (show (fil f n k p).map (l ++ ·) = none by rw [fil_no hlt (by omega) (EQ.out.trans h)]; rfl))
              subst h
              clear hol hbl
              go_wp2_with fail
              (with_reducible refine HCF.out.mono ?_)
              rintro e u1 ⟨rfl, hb⟩
              have HB1 := hide (bl_call hb HB.out)
              go_wp2
              go_ret2
              exact ⟨.inr ⟨NO.out, rfl⟩, HB1.out⟩
            · have g0 : ((t : Int) == (p : Int)) = false := beq_eq_false_iff_ne.2 (by omega)
              clear hol hbl
              go_wp2_with fail
              (with_reducible refine HCF.out.mono ?_)
              rintro e u1 ⟨rfl, hb⟩
              have hol1 := HOL.out.below hb
              have HB1 := hide (bl_call hb HB.out)
              have hz1 := HB1.out.size
              clear hb
              go_wp2_with (at_builtin; refine wpList_append_int rfl (.tmp 28) (.tmp 30) _ rfl 3 i0 Try.underlying22 hi0 jz0 jz1 jz2 w.heap.size A cc q l rfl (HPL.out) (hol1.alloc _) u1.heap.size t rfl (by simp) (by omega) (by simp; omega) ?_; intro A' c' w' hol' hb' hg')
              go_roundw
              case rel => exact ⟨t, k - 1, q + 1, A', c', l ++ [(t : Int)], by omega, by omega, rfl, rfl, by simp [HPL.out], by omega, hol', fil_snoc hlt hk EQ.out (by omega) HT.out, (bl_alloc HB1.out _).trans hb'⟩
              case measure => simp [intOf]; omega
          · have M := hide (HAD.out.trans (show adv f p (n - t) t = adv f p (n - (t + 1)) (t + 1) by rw [show n - t = (n - (t + 1)) + 1 from by omega, adv_yes qf]))
            have CF := HF.out wr p (t + 1) hbl (by omega) (by omega)
            rw [qf, show (((t + 1 : Nat)) : Int) = (t : Int) + 1 from by omega] at CF
            have HCF := hide CF
            clear CF LEAVE HAD qf
            have HOL := hide hol
            have HB := hide hbl
            clear hol hbl
            go_wp2_with fail
            (with_reducible refine HCF.out.mono ?_)
            rintro e u1 ⟨rfl, hb⟩
            have hol1 := HOL.out.below hb
            have HB1 := hide (bl_call hb HB.out)
            clear hb
            go_wp2
            go_roundw
            case rel => exact ⟨t + 1, by omega, by omega, by go_num, M.out, hol1, HB1.out⟩
            case measure => simp [intOf]; omega
        · have htn' : t = n := by omega
          have EQ := hide (LEAVE.out (by rw [htn', Nat.sub_self]; rfl))
          have g0 : ((t : Int) == (p : Int)) = false := beq_eq_false_iff_ne.2 (by omega)
          have HB1 := hide hbl
          clear LEAVE HAD hbl htn'
          go_wp2_with (at_builtin; refine wpList_append_int rfl (.tmp 28) (.tmp 30) _ rfl 3 i0 Try.underlying22 hi0 jz0 jz1 jz2 w.heap.size A cc q l rfl (HPL.out) (hol.alloc _) wr.heap.size t rfl (by simp) (by omega) (by simp; omega) ?_; intro A' c' w' hol' hb' hg')
          go_roundw
          case rel => exact ⟨t, k - 1, q + 1, A', c', l ++ [(t : Int)], by omega, by omega, rfl, rfl, by simp [HPL.out], by omega, hol', fil_snoc hlt hk EQ.out (by omega) HT.out, (bl_alloc HB1.out _).trans hb'⟩
          case measure => simp [intOf]; omega
    · have E := hide (HT.out.trans (show (fil f n k p).map (l ++ ·) = some l by rw [fil_end (by omega)]; simp))
      have HB := hide hbl
      go_wp2
      go_ret2
      exact ⟨.inl ⟨l, A, cc, E.out, by rw [← HPL.out]; rfl, hol, by rw [← HPL.out]; omega⟩, HB.out⟩

theorem fcol_i (w : World) (b1 b2 c : Nat) (A : Option Addr) (l : List Int) (h : Int) (p t : Nat) (h1 : w.cell? ⟨b1, 0, none⟩ = some (.slice A l.length c)) (h2 : w.cell? ⟨b2, 0, none⟩ = some (.int .i64 h)) (ha : IL w A l.length l) (hc : l.length ≤ c) (hl : l.length ≤ 1000) (hb : ∀ j, j < l.length → 0 ≤ ng l j ∧ ng l j ≤ 100000) (hpt : p < t) (htl : t ≤ l.length) :
    Calls Try.prog 95 #[.int .i64 p, .int .i64 t, .pointer (some ⟨b1, 0, none⟩), .pointer (some ⟨b2, 0, none⟩)] w fun e w' => e = .returned (.bool (decide (sm l p t ≤ h))) ∧ Below w.heap.size w w' := by
  obtain ⟨b, o, rfl, hb0, hc0⟩ := ha.at_ (i := 0) (by omega)
  have HS := hide (ha.sub (f := p) (t := t) (by omega) htl)
  have SL := hide (show ((l.drop p).take (t - p)).length = t - p by simp; omega)
  have SB : Hid (∀ j, j < ((l.drop p).take (t - p)).length → 0 ≤ ng ((l.drop p).take (t - p)) j ∧ ng ((l.drop p).take (t - p)) j ≤ 100000) := hide (fun j hj => by rw [SL.out] at hj; rw [ng_sub hj]; exact hb _ (by omega))
  have CS := fun (k d : Nat) => sumOf_i (w.drewN k) (some ⟨b, o + p, none⟩) (t - p) d _ (HS.out.drewN k) (by rw [SL.out]; omega) SB.out
  have E0 : Hid (sl ((l.drop p).take (t - p)) = sm l p t) := hide rfl
  obtain ⟨z, hz⟩ : ∃ z, z = sm l p t := ⟨_, rfl⟩
  rw [E0.out, ← hz] at CS
  rw [← hz]
  have HC := hide CS
  have g1 : p ≤ t := by omega
  have g2 : t ≤ c := by omega
  have CAST : ((t : Int) - (p : Int)) = ((t - p : Nat) : Int) := by omega
  clear CS E0 SB SL HS hb ha hc0 hz
  go_enter Try.func95, Try.ntmps95
  go_wp2_with fail
  go_quiet (first | (go_at_call 59; (with_reducible refine (HC.out _ _).mono ?_); exact fun _ _ h => ⟨h.1, _, h.2⟩))
  go_wp2
  go_ret
  exact ⟨rfl, bl_drewN (bl_refl _) _⟩
end Go.Proofs.Ytkclecfjpabplaa
