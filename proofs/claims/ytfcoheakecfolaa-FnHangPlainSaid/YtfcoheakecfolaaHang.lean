/- HangShape answers as its model does. -/
import Derived.Test.YtfcoheakecfolaaShape
namespace Go.Proofs.Ytfcoheakecfolaa
open Go.ChangeShapes Go.WideShapes Go.ChangeAt Go.RowKit
set_option linter.unusedVariables false

/-- The widths of HangShape. -/
def hangL (w d : Int) (f c : Nat) : List Int := (List.range (f + c + 1)).map fun i => if f ≤ i ∧ i < f + c then w - d else w
theorem hangL_len (w d : Int) (f c : Nat) : (hangL w d f c).length = f + c + 1 := by simp [hangL]
theorem hangL_get {w d : Int} {f c i : Nat} (h : i < f + c + 1) : ng (hangL w d f c) i = if f ≤ i ∧ i < f + c then w - d else w := by simp [ng, hangL, List.getD, h]
def hangOk (w d f c : Int) : Bool := inB w 1 10000 && inB d 0 (w - 1) && inB f 0 11 && inB c 0 11 && decide (f + c ≤ 11)
theorem hangOk_iff {w d f c : Int} : hangOk w d f c = true ↔ (1 ≤ w ∧ w ≤ 10000) ∧ (0 ≤ d ∧ d ≤ w - 1) ∧ (0 ≤ f ∧ f ≤ 11) ∧ (0 ≤ c ∧ c ≤ 11) ∧ f + c ≤ 11 := by simp [hangOk, inB_iff, and_assoc]
/-- What HangShape answers: the widths, and whether it succeeds. -/
def hangA (w d f c : Int) : List Int := if hangOk w d f c then hangL w d f.toNat c.toNat else []
theorem hangA_no {w d f c : Int} (h : ¬ ((1 ≤ w ∧ w ≤ 10000) ∧ (0 ≤ d ∧ d ≤ w - 1) ∧ (0 ≤ f ∧ f ≤ 11) ∧ (0 ≤ c ∧ c ≤ 11) ∧ f + c ≤ 11)) : hangOk w d f c = false ∧ hangA w d f c = [] := by
  have : hangOk w d f c = false := by rw [Bool.eq_false_iff]; exact fun h' => h (hangOk_iff.1 h')
  exact ⟨this, by simp [hangA, this]⟩
theorem hangA_yes {w d : Int} {f c : Nat} (h : hangOk w d f c = true) : hangA w d f c = hangL w d f c := by simp [hangA, h]
/-- What a function leaves that returns a list that it made, and a truth. -/
def RetLB (w : World) (l : List Int) (ok : Bool) (e : Ending) (w' : World) : Prop := ∃ A c, e = .returned (.tuple #[.slice A l.length c, .bool ok]) ∧ OL w' 3 w.heap.size A c l ∧ Below w.heap.size w w'
theorem RetLB.no {w w' : World} {l : List Int} {ok : Bool} (h : ok = false ∧ l = []) (hb : Below w.heap.size w w') : RetLB w l ok (.returned (.tuple #[.slice none 0 0, .bool false])) w' := by
  obtain ⟨rfl, rfl⟩ := h
  exact ⟨none, 0, rfl, OL.nil _ _ _, hb⟩

theorem HangShape_i (wd d f c : Int) (w : World) :
    Calls Try.prog 19 #[.int .i64 wd, .int .i64 d, .int .i64 f, .int .i64 c] w (RetLB w (hangA wd d f c) (hangOk wd d f c)) := by
  by_cases hv : (1 ≤ wd ∧ wd ≤ 10000) ∧ (0 ≤ d ∧ d ≤ wd - 1) ∧ (0 ≤ f ∧ f ≤ 11) ∧ (0 ≤ c ∧ c ≤ 11) ∧ f + c ≤ 11
  · have ok := hangOk_iff.2 hv
    obtain ⟨⟨w0, w1⟩, ⟨d0, d1⟩, ⟨f0, f1⟩, ⟨c0, c1⟩, s1⟩ := hv
    obtain ⟨f, rfl⟩ := Int.eq_ofNat_of_zero_le f0
    obtain ⟨c, rfl⟩ := Int.eq_ofNat_of_zero_le c0
    have q1 := inB_yes w0 w1
    have q2 := inB_yes d0 d1
    have q3 : inB f 0 12 = true := inB_yes (by omega) (by omega)
    have q4 : inB c 0 12 = true := inB_yes (by omega) (by omega)
    have OK := hide ok
    have HA := hide (hangA_yes ok)
    clear ok
    obtain ⟨i0, hi0, hz0, hz1, hz2⟩ := info_parts int_info
    obtain ⟨N, hN⟩ : ∃ N, N = f + c + 1 := ⟨_, rfl⟩
    have hNi : ((f : Int) + (c : Int) + 1) = (N : Int) := by omega
    have HL := hide ((hangL_len wd d f c).trans hN.symm)
    have HNf := hide hN
    have hNle : N ≤ 12 := by omega
    have hfc : f + c < N := by omega
    clear hN
    go_enter Try.func19, Try.ntmps19
    go_wp2_with (first | (go_at_call 48; refine (validWidth_i _ _).mono ?_; rintro e w' ⟨rfl, rfl⟩) | (go_at_call 44; refine (within_any _ _ _ _).mono ?_; rintro e w' ⟨rfl, rfl⟩) | (at_make; refine wpList_make_full _ rfl _ _ _ rfl w.heap.size 3 i0 _ 1 Try.underlying30 hi0 hz0 hz1 .i64 .i64 _ _ N rfl rfl rfl rfl (by rw [hz2]; omega) (by unfold maxLen; omega) (Nat.le_refl _) ?_; intro w1 hown hgr))
    have hR : (List.replicate N (0 : Int)).length = (hangL wd d f c).length := by rw [List.length_replicate, HL.out]
    have HR := hide hR
    have H0 : Hid (OL w1 3 w.heap.size (some ⟨w.heap.size, 0, none⟩) N (mix (hangL wd d f c) (List.replicate N 0) 0)) := hide (by
      rw [mix_zero]; unfold OL
      have e1 : (madeCells (Value.int .i64 0).cells N).toList = List.replicate N (.int .i64 0) := toList_madeCells_one _ _
      simp only [Nat.mul_one, e1] at hown
      simpa using hown)
    have hb1 := below_new hgr
    clear hown hgr hR hNi
    go_wp2
    go_loopw [44] (fun i u => ∃ p : Nat, p ≤ N ∧ i = .int .i64 p ∧ OL u 3 w.heap.size (some ⟨w.heap.size, 0, none⟩) N (mix (hangL wd d f c) (List.replicate N 0) p) ∧ Below w.heap.size w u) (fun i _ => N - (intOf i).toNat)
    case atStart => exact ⟨0, by omega, rfl, H0.out, hb1⟩
    case round =>
      obtain ⟨p, hp, rfl, hol, hbl⟩ := hrel
      have hml : (mix (hangL wd d f c) (List.replicate N 0) p).length = N := by rw [mix_len HR.out, HL.out]
      by_cases hlt : p < N
      · obtain ⟨g', he', _, hgz, hfz⟩ := hol.frozen (by omega)
        injection he' with he'
        cases he'
        obtain ⟨b, o, he, hg, hc⟩ := hol.reads.at_ (i := p) (by omega)
        injection he with he
        cases he
        have fz := hfz p
        rw [Nat.zero_add] at hc
        have gp := hangL_get (w := wd) (d := d) (f := f) (c := c) (i := p) (by have := HNf.out; omega)
        have GP := hide gp
        have HML := hide hml
        clear gp hml hfz
        rcases (by omega : p < f ∨ f + c ≤ p ∨ f ≤ p ∧ p < f + c) with h | h | ⟨h, h'⟩
        · have q5 : inB (p : Int) f ((f : Int) + c - 1) = false := inB_no (by omega)
          have M := hide (hol.set_ p wd).1
          have G2 := hide (GP.out.trans (if_neg (by omega)))
          clear hol
          go_wp2_with (go_at_call 44; refine (within_any _ _ _ _).mono ?_; rintro e w' ⟨rfl, rfl⟩)
          go_roundw
          case rel =>
            refine ⟨p + 1, by omega, by go_num, ?_, bl_set hbl (Nat.le_refl _) _⟩
            have := M.out
            rwa [mix_put HR.out (by rw [HL.out]; exact hlt) G2.out] at this
          case measure => simp [intOf]; omega
        · have q5 : inB (p : Int) f ((f : Int) + c - 1) = false := inB_no (by omega)
          have M := hide (hol.set_ p wd).1
          have G2 := hide (GP.out.trans (if_neg (by omega)))
          clear hol
          go_wp2_with (go_at_call 44; refine (within_any _ _ _ _).mono ?_; rintro e w' ⟨rfl, rfl⟩)
          go_roundw
          case rel =>
            refine ⟨p + 1, by omega, by go_num, ?_, bl_set hbl (Nat.le_refl _) _⟩
            have := M.out
            rwa [mix_put HR.out (by rw [HL.out]; exact hlt) G2.out] at this
          case measure => simp [intOf]; omega
        · have q5 : inB (p : Int) f ((f : Int) + c - 1) = true := inB_yes (by omega) (by omega)
          have M := hide ((hol.set_ p wd).1.set_ p (wd - d)).1
          have G2 := hide (GP.out.trans (if_pos ⟨h, h'⟩))
          clear hol
          go_wp2_with (go_at_call 44; refine (within_any _ _ _ _).mono ?_; rintro e w' ⟨rfl, rfl⟩)
          go_roundw
          case rel =>
            refine ⟨p + 1, by omega, by go_num, ?_, bl_set (bl_set hbl (Nat.le_refl _) _) (Nat.le_refl _) _⟩
            have := M.out
            rwa [List.set_set, mix_put HR.out (by rw [HL.out]; exact hlt) G2.out] at this
          case measure => simp [intOf]; omega
      · have hpe : p = N := by omega
        have M : Hid (OL wr 3 w.heap.size (some ⟨w.heap.size, 0, none⟩) N (hangL wd d f c)) := hide (by
          rwa [hpe, mix_done HR.out HL.out] at hol)
        clear hml hol
        go_wp2
        go_ret2
        exact ⟨some ⟨w.heap.size, 0, none⟩, N, by rw [HA.out, OK.out, HL.out]; rfl, by rw [HA.out]; exact M.out, hbl⟩
  · have NO := hide (hangA_no hv)
    cases q1 : inB wd 1 10000
    · clear hv
      go_enter Try.func19, Try.ntmps19
      go_wp2_with (go_at_call 48; refine (validWidth_i _ _).mono ?_; rintro e w' ⟨rfl, rfl⟩)
      go_ret2
      exact RetLB.no NO.out (bl_refl _)
    · obtain ⟨b1, b1'⟩ := inB_iff.1 q1
      cases q2 : inB d 0 (wd - 1)
      · clear hv
        go_enter Try.func19, Try.ntmps19
        go_wp2_with (first | (go_at_call 48; refine (validWidth_i _ _).mono ?_; rintro e w' ⟨rfl, rfl⟩) | (go_at_call 44; refine (within_any _ _ _ _).mono ?_; rintro e w' ⟨rfl, rfl⟩))
        go_ret2
        exact RetLB.no NO.out (bl_refl _)
      · cases q3 : inB f 0 12 <;> cases q4 : inB c 0 12
        all_goals
          (try (have k3 := inB_iff.1 q3; obtain ⟨k3, k3'⟩ := k3))
          (try (have k4 := inB_iff.1 q4; obtain ⟨k4, k4'⟩ := k4))
        all_goals (try (have hs : 12 < f + c + 1 := (by have h1 := inB_iff.1 q1; have h2 := inB_iff.1 q2; omega)))
        all_goals
          clear hv
          go_enter Try.func19, Try.ntmps19
          go_wp2_with (first | (go_at_call 48; refine (validWidth_i _ _).mono ?_; rintro e w' ⟨rfl, rfl⟩) | (go_at_call 44; refine (within_any _ _ _ _).mono ?_; rintro e w' ⟨rfl, rfl⟩))
          go_ret2
          exact RetLB.no NO.out (bl_refl _)

theorem HangShape_s (wd d f c : Int) (w : World) :
    Calls Try.prog 20 #[.int .i64 wd, .int .i64 d, .int .i64 f, .int .i64 c] w (RetLB w (hangA wd d f c) (hangOk wd d f c)) := by
  by_cases hv : (1 ≤ wd ∧ wd ≤ 10000) ∧ (0 ≤ d ∧ d ≤ wd - 1) ∧ (0 ≤ f ∧ f ≤ 11) ∧ (0 ≤ c ∧ c ≤ 11) ∧ f + c ≤ 11
  · have ok := hangOk_iff.2 hv
    obtain ⟨⟨w0, w1⟩, ⟨d0, d1⟩, ⟨f0, f1⟩, ⟨c0, c1⟩, s1⟩ := hv
    obtain ⟨f, rfl⟩ := Int.eq_ofNat_of_zero_le f0
    obtain ⟨c, rfl⟩ := Int.eq_ofNat_of_zero_le c0
    have q1 := inB_yes w0 w1
    have q2 := inB_yes d0 d1
    have OK := hide ok
    have HA := hide (hangA_yes ok)
    have HL := hide (hangL_len wd d f c)
    clear ok
    obtain ⟨i0, hi0, hz0, hz1, hz2⟩ := info_parts int_info
    have H0 : Hid (OL (w.alloc (.cells #[] 3)) 3 w.heap.size (some ⟨w.heap.size, 0, none⟩) 0 ((hangL wd d f c).take 0)) := hide (by
      have := OL.lit (w := w) (e := 3) (B := w.heap.size) (Nat.le_refl _) [] (by simp)
      simpa using this)
    go_enter Try.func20, Try.ntmps20
    go_wp2_with (first | (go_at_call 49; refine (validWidth_s _ _).mono ?_; rintro e w' ⟨rfl, rfl⟩) | (go_at_call 45; refine (inRange_any _ _ _ _).mono ?_; rintro e w' ⟨rfl, rfl⟩))
    go_loopw [11, 10] (fun i v u => ∃ (p : Nat) (A : Option Addr) (cc : Nat), p ≤ f + c ∧ i = .int .i64 p ∧ v = .slice A p cc ∧ OL u 3 w.heap.size A cc ((hangL wd d f c).take p) ∧ Below w.heap.size w u) (fun i _ _ => (f + c) - (intOf i).toNat)
    case atStart => exact ⟨0, _, _, by omega, rfl, rfl, H0.out, bl_alloc (bl_refl _) _⟩
    case round =>
      obtain ⟨p, A, cc, hp, rfl, rfl, hol, hbl⟩ := hrel
      have hzb := hbl.size
      by_cases hlt : p < f + c
      · have gp := hangL_get (w := wd) (d := d) (f := f) (c := c) (i := p) (by omega)
        have GP := hide gp
        clear gp
        rcases (by omega : p < f ∨ f ≤ p) with h | h
        · have G2 := hide (GP.out.trans (if_neg (by omega)))
          go_wp2_with (at_builtin; refine wpList_append_int rfl (.tmp 55) (.tmp 57) _ rfl 3 i0 Try.underlying30 hi0 hz0 hz1 hz2 w.heap.size A cc p ((hangL wd d f c).take p) rfl (by rw [take_len (by rw [HL.out]; omega)]) (hol.alloc _) wr.heap.size wd rfl (by simp) (by omega) (by simp; omega) ?_; intro A' c' w' hol' hb' hg')
          go_roundw
          case rel =>
            refine ⟨p + 1, A', c', by omega, by go_num, rfl, ?_, (bl_alloc hbl _).trans hb'⟩
            rwa [take_next (by rw [HL.out]; omega) G2.out] at hol'
          case measure => simp [intOf]; omega
        · have G2 := hide (GP.out.trans (if_pos ⟨h, hlt⟩))
          go_wp2_with (at_builtin; refine wpList_append_int rfl (.tmp 59) (.tmp 63) _ rfl 3 i0 Try.underlying30 hi0 hz0 hz1 hz2 w.heap.size A cc p ((hangL wd d f c).take p) rfl (by rw [take_len (by rw [HL.out]; omega)]) (hol.alloc _) wr.heap.size (wd - d) rfl (by simp) (by omega) (by simp; omega) ?_; intro A' c' w' hol' hb' hg')
          go_roundw
          case rel =>
            refine ⟨p + 1, A', c', by omega, by go_num, rfl, ?_, (bl_alloc hbl _).trans hb'⟩
            rwa [take_next (by rw [HL.out]; omega) G2.out] at hol'
          case measure => simp [intOf]; omega
      · have hpe : p = f + c := by omega
        have gp := hangL_get (w := wd) (d := d) (f := f) (c := c) (i := p) (by omega)
        rw [if_neg (by omega)] at gp
        have GP := hide gp
        have HP := hide hpe
        clear gp hpe
        go_wp2_with (at_builtin; refine wpList_append_int rfl (.tmp 65) (.tmp 67) _ rfl 3 i0 Try.underlying30 hi0 hz0 hz1 hz2 w.heap.size A cc p ((hangL wd d f c).take p) rfl (by rw [take_len (by rw [HL.out]; omega)]) (hol.alloc _) wr.heap.size wd rfl (by simp) (by omega) (by simp; omega) ?_; intro A' c' w' hol' hb' hg')
        go_ret2
        refine ⟨A', c', by rw [HA.out, OK.out, HL.out, HP.out]; rfl, ?_, (bl_alloc hbl _).trans hb'⟩
        rw [take_next (by rw [HL.out, HP.out]; omega) GP.out, List.take_of_length_le (by rw [HL.out, HP.out]; omega)] at hol'
        rw [HA.out]
        exact hol'
  · have NO := hide (hangA_no hv)
    cases q1 : inB wd 1 10000
    · clear hv
      go_enter Try.func20, Try.ntmps20
      go_wp2_with (go_at_call 49; refine (validWidth_s _ _).mono ?_; rintro e w' ⟨rfl, rfl⟩)
      go_ret2
      exact RetLB.no NO.out (bl_alloc (bl_refl _) _)
    · obtain ⟨b1, b1'⟩ := inB_iff.1 q1
      cases q2 : inB d 0 (wd - 1)
      · clear hv
        go_enter Try.func20, Try.ntmps20
        go_wp2_with (first | (go_at_call 49; refine (validWidth_s _ _).mono ?_; rintro e w' ⟨rfl, rfl⟩) | (go_at_call 45; refine (inRange_any _ _ _ _).mono ?_; rintro e w' ⟨rfl, rfl⟩))
        go_ret2
        exact RetLB.no NO.out (bl_alloc (bl_refl _) _)
      · have hs : f < 0 ∨ 0 ≤ f ∧ (c < 0 ∨ 0 ≤ c ∧ (12 ≤ f ∨ f < 12 ∧ (12 ≤ c ∨ c < 12 ∧ 12 ≤ f + c))) := by
          have h1 := inB_iff.1 q1
          have h2 := inB_iff.1 q2
          omega
        rcases hs with h | ⟨h, h1 | ⟨h1, h2 | ⟨h2, h3 | ⟨h3, h4⟩⟩⟩⟩
        all_goals
          clear hv
          go_enter Try.func20, Try.ntmps20
          go_wp2_with (first | (go_at_call 49; refine (validWidth_s _ _).mono ?_; rintro e w' ⟨rfl, rfl⟩) | (go_at_call 45; refine (inRange_any _ _ _ _).mono ?_; rintro e w' ⟨rfl, rfl⟩))
          go_ret2
          exact RetLB.no NO.out (bl_alloc (bl_refl _) _)
end Go.Proofs.Ytfcoheakecfolaa
