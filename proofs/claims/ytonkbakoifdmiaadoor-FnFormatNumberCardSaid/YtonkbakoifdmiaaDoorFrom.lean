/- FromRoman, in the program and in its model. -/
import Derived.Test.YtonkbakoifdmiaaDoorRom
namespace Go.Proofs.YtonkbakoifdmiaaDoor
open Go.ChangeShapes Go.WideShapes Go.ChangeAt Go.RowKit
set_option linter.unusedVariables false

def strLen : Value → Nat
  | .string r => r.size
  | _ => 0
/-- Whether a text begins with another one. -/
def pre (x y : ByteArray) : Bool := y.data.toList.isPrefixOf x.data.toList
theorem pre_len {x y : ByteArray} (h : pre x y = true) : y.size ≤ x.size := by
  have := (List.isPrefixOf_iff_prefix.1 h).length_le
  rwa [data_len, data_len] at this
theorem pre_short {x y : ByteArray} (h : x.size < y.size) : pre x y = false := by
  cases q : pre x y
  · rfl
  · have := pre_len q; omega
theorem pre_cut {x y : ByteArray} (h : y.size ≤ x.size) : ((x.extract 0 y.size).toList == y.toList) = pre x y := by
  rw [Lib.toList_data, Lib.toList_data, Lib.extract_data, List.drop_zero, Nat.sub_zero]
  unfold pre
  rw [Bool.eq_iff_iff, beq_iff_eq, List.isPrefixOf_iff_prefix, List.prefix_iff_eq_take, data_len]
  exact ⟨fun h => h.symm, fun h => h.symm⟩
theorem drop_ext (x : ByteArray) (n : Nat) : (x.extract n x.size).data.toList = x.data.toList.drop n := by
  rw [Lib.extract_data, List.take_of_length_le]
  rw [List.length_drop, data_len]
  exact Nat.le_refl _
theorem drop_size (x : ByteArray) (n : Nat) : (x.extract n x.size).size = x.size - n := by simp

theorem HasPrefix_any (x y : ByteArray) (w : World) (hx : x.size ≤ 4611686018427387904) (hy : y.size ≤ 4611686018427387904) :
    Calls Tryd.prog 24 #[.string x, .string y] w fun e w' => e = .returned (.bool (pre x y)) ∧ w = w' := by
  rcases Nat.lt_or_ge x.size y.size with h | h
  · have E := hide (pre_short h)
    go_enter Tryd.func24, Tryd.ntmps24
    go_wp2
    go_ret
    exact ⟨bool_ret E.out.symm, rfl⟩
  · have e1 := pre_cut h
    obtain ⟨b, hb⟩ : ∃ b, b = pre x y := ⟨_, rfl⟩
    rw [← hb] at e1
    have HB := hide hb
    clear hb
    go_enter Tryd.func24, Tryd.ntmps24
    go_wp2
    go_ret
    exact ⟨bool_ret HB.out, rfl⟩
theorem RomT.below {w w' : World} (h : RomT w) (hb : Below w.heap.size w w') : RomT w' := fun j v hv => keep_cell hb (h j v hv)
theorem fr_yes {s : ByteArray} {z : Nat} (hz : frv s.data.toList = z) (h0 : 0 < s.size) (h : bs (romN (z : Int)) = s) : fr s.data.toList = ((z : Int), true) := by
  have e : romN (z : Int) = s.data.toList := by rw [← h, bs_data]
  unfold fr
  rw [hz, if_pos]
  unfold okR
  rw [hz]
  unfold romN at e
  split at e
  · rename_i hr
    rw [Int.toNat_natCast] at e
    simp [e]; omega
  · have := data_len s
    rw [← e] at this
    simp at this
    omega
theorem fr_not {s : ByteArray} {z : Nat} (hz : frv s.data.toList = z) (h : bs (romN (z : Int)) ≠ s) : fr s.data.toList = (0, false) := by
  unfold fr
  rw [if_neg]
  intro k
  unfold okR at k
  rw [hz] at k
  simp only [Bool.and_eq_true, decide_eq_true_eq, beq_iff_eq] at k
  apply h
  rw [romN_yes k.1, k.2]
  exact (bs_eq rfl).symm
theorem FromRoman_i (s : ByteArray) (w : World) (hs : s.size ≤ 1048576) (hT : RomT w) :
    Calls Tryd.prog 13 #[.string s] w fun e w' => e = .returned (rvp (fr s.data.toList)) ∧ Below w.heap.size w w' := by
  have hix0 := fun (k : Nat) (h : k < 13) (W : World) => RT_get h W
  have HX := hide hix0
  have HT := hide hT
  clear hix0
  go_enter Tryd.func13, Tryd.ntmps13
  go_wp2_with (first | (refine wpList_load_mid rfl 38 (.global 0) rfl 0 0 rfl RT (.array 13 37) hT Tryd.underlying38 rfl (by kernel_rfl) ?_))
  generalize RT.toArray = RA at HX ⊢
  clear hT
  go_loopw [4, 5, 10] (fun n x i u => ∃ (k z f : Nat) (r : ByteArray), k ≤ 13 ∧ i = .int .i64 k ∧ n = .int .i64 z ∧ x = .string r ∧ z + frF f k r.data.toList = frv s.data.toList ∧ 13 - k + r.size < f ∧ z + 1000 * r.size ≤ 1000 * s.size ∧ Below w.heap.size w u) (fun _ _ i _ => 13 - (intOf i).toNat)
  case atStart => exact ⟨0, 0, 14 + s.data.toList.length, s, by omega, rfl, rfl, rfl, by rw [Nat.zero_add]; rfl, by rw [data_len]; omega, by omega, bl_refl _⟩
  case round =>
    obtain ⟨k, z, f, r, hk, rfl, rfl, rfl, hz, hf, hsz, hb⟩ := hrel
    have HZ := hide hz
    clear hz
    by_cases hlt : k < 13
    · have hix := HX.out k hlt
      obtain ⟨v0, v1, t0, t1, t2⟩ := rp_facts hlt
      obtain ⟨V, hV⟩ : ∃ V, V = rpV k := ⟨_, rfl⟩
      obtain ⟨T, hT⟩ : ∃ T, T = bs (rpT k) := ⟨_, rfl⟩
      have HTD := hide (show T.data.toList = rpT k by rw [hT, bs_data])
      have TS : T.size = (rpT k).length := by rw [hT, bs_size]
      have ts : T.size ≤ 2 := by omega
      have tp : 1 ≤ T.size := by omega
      rw [← hV, ← hT] at hix
      rw [← hV] at v0 v1
      have HV := hide hV
      have dk : decide ((k : Int) < 13) = true := decide_eq_true (by omega)
      have HF := hide hf
      have HS := hide hsz
      clear hV hT t0 t1 t2 TS hf hsz
      go_wp2
      go_loop [4, 5] (fun n x => ∃ (z f : Nat) (r : ByteArray), n = .int .i64 z ∧ x = .string r ∧ z + frF f k r.data.toList = frv s.data.toList ∧ 13 - k + r.size < f ∧ z + 1000 * r.size ≤ 1000 * s.size) (fun _ x => strLen x)
      case atStart => exact ⟨z, f, r, rfl, rfl, HZ.out, HF.out, HS.out⟩
      case round =>
        obtain ⟨z, f, r, rfl, rfl, hz, hf, hsz⟩ := hrel
        obtain ⟨f, rfl⟩ : ∃ f', f = f' + 1 := ⟨f - 1, by omega⟩
        have HZ := hide hz
        clear hz
        cases q : pre r T
        · have M := hide (show z + frF f (k + 1) r.data.toList = frv s.data.toList by rw [← HZ.out, frF_skip hlt (by rw [← HTD.out]; exact q)])
          go_wp2_with (go_at_call 24; refine (HasPrefix_any _ _ _ (by omega) (by omega)).mono ?_; rintro e w' ⟨rfl, rfl⟩)
          go_roundw
          case rel => exact ⟨k + 1, z, f, r, by omega, by go_num, rfl, rfl, M.out, by omega, hsz, bl_alloc hb _⟩
          case measure => simp [intOf]; omega
        · have hpl := pre_len q
          have D := hide (drop_ext r T.size)
          have DS := drop_size r T.size
          have M := hide (show z + V + frF f k (r.extract T.size r.size).data.toList = frv s.data.toList by
            rw [← HZ.out, frF_take hlt (by rw [← HTD.out]; exact q), ← HV.out, ← HTD.out, D.out, data_len]; omega)
          go_wp2_with (go_at_call 24; refine (HasPrefix_any _ _ _ (by omega) (by omega)).mono ?_; rintro e w' ⟨rfl, rfl⟩)
          go_round
          case rel => exact ⟨z + V, f, _, by go_num, rfl, M.out, by omega, by omega⟩
          case measure => simp [strLen]; omega
    · obtain rfl : k = 13 := by omega
      have E1 := hide (show frv s.data.toList = z by rw [← HZ.out, frF_end]; rfl)
      rcases Nat.eq_zero_or_pos s.size with h0 | h0
      · have te := empty_yes h0
        have E : Hid (fr s.data.toList = (0, false)) := hide (by
          have : s.data.toList = [] := List.eq_nil_of_length_eq_zero (by rw [data_len]; exact h0)
          rw [this]; rfl)
        clear h0
        go_wp2
        go_ret2
        exact ⟨by rw [E.out]; rfl, hb⟩
      · have te := empty_no h0
        by_cases ha : bs (romN (z : Int)) = s
        · have ty : ((bs (romN (z : Int))).toList == s.toList) = true := by rw [ha]; exact teq_yes s
          have E := hide (fr_yes E1.out h0 ha)
          clear ha
          go_wp2_with (go_at_call 11; refine (Roman_i _ _ (HT.out.below hb)).mono ?_; rintro e u1 ⟨rfl, hb1⟩)
          go_ret2
          exact ⟨by rw [E.out]; rfl, bl_call hb1 hb⟩
        · have ty : ((bs (romN (z : Int))).toList == s.toList) = false := teq_no ha
          have E := hide (fr_not E1.out ha)
          clear ha
          go_wp2_with (go_at_call 11; refine (Roman_i _ _ (HT.out.below hb)).mono ?_; rintro e u1 ⟨rfl, hb1⟩)
          go_ret2
          exact ⟨by rw [E.out]; rfl, bl_call hb1 hb⟩

theorem romanValue_s (s : ByteArray) (w : World) (hs : s.size ≤ 1048576) :
    Calls Tryd.prog 23 #[.string s] w fun e w' => ∃ z : Nat, e = .returned (.int .i64 z) ∧ (z = frv s.data.toList ∨ 10000 ≤ z ∧ 10000 ≤ frv s.data.toList) ∧ Below w.heap.size w w' := by
  go_enter Tryd.func23, Tryd.ntmps23
  go_wp2_with fail
  refine (romanParts_s _).mono ?_
  rintro e u1 ⟨A, C, rfl, hps, hpi, hb⟩
  go_wp2
  go_loopw [0, 5, 6] (fun x n i u => ∃ (k z f j : Nat) (r : ByteArray), k ≤ 13 ∧ i = .int .i64 k ∧ n = .int .i64 z ∧ x = .string r ∧ ((z + frF f k r.data.toList = frv s.data.toList ∧ 13 - k + r.size < f) ∨ 10000 ≤ z ∧ 10000 ≤ frv s.data.toList) ∧ z + 1000 * r.size ≤ 1000 * s.size ∧ u = u1.drewN j) (fun _ _ i _ => 13 - (intOf i).toNat)
  case atStart => exact ⟨0, 0, 14 + s.data.toList.length, 0, s, by omega, rfl, rfl, rfl, .inl ⟨by rw [Nat.zero_add]; rfl, by rw [data_len]; omega⟩, by omega, rfl⟩
  case round =>
    obtain ⟨k, z, f, j, r, hk, rfl, rfl, rfl, hz, hsz, rfl⟩ := hrel
    have HZ := hide hz
    have HS := hide hsz
    clear hz hsz
    by_cases hlt : k < 13
    · obtain ⟨v0, v1, t0, t1, t2⟩ := rp_facts hlt
      obtain ⟨b, o, rfl, _, hc⟩ := hpi.at_ hlt
      obtain ⟨b', o', rfl, _, hc'⟩ := hps.at_ hlt
      rw [rpI_get hlt] at hc
      rw [rpB_get hlt] at hc'
      obtain ⟨V, hV⟩ : ∃ V, V = rpV k := ⟨_, rfl⟩
      obtain ⟨T, hT⟩ : ∃ T, T = bs (rpT k) := ⟨_, rfl⟩
      have HTD := hide (show T.data.toList = rpT k by rw [hT, bs_data])
      have TS : T.size = (rpT k).length := by rw [hT, bs_size]
      have ts : T.size ≤ 2 := by omega
      have tp : 1 ≤ T.size := by omega
      rw [← hV] at hc v0 v1
      rw [← hT] at hc'
      have HV := hide hV
      clear hV hT t0 t1 t2 TS
      go_wp2
      go_loopw [0, 5] (fun x n u => ∃ (z f j : Nat) (r : ByteArray), n = .int .i64 z ∧ x = .string r ∧ ((z + frF f k r.data.toList = frv s.data.toList ∧ 13 - k + r.size < f) ∨ 10000 ≤ z ∧ 10000 ≤ frv s.data.toList) ∧ z + 1000 * r.size ≤ 1000 * s.size ∧ u = u1.drewN j) (fun x _ _ => strLen x)
      case atStart => exact ⟨z, f, j, r, rfl, rfl, HZ.out, HS.out, rfl⟩
      case round =>
        obtain ⟨z, f, j, r, rfl, rfl, hz, hsz, rfl⟩ := hrel
        have HZ := hide hz
        clear hz
        rcases (by omega : r.size < T.size ∨ T.size ≤ r.size) with hl | hl
        · have M : Hid ((z + frF (f - 1) (k + 1) r.data.toList = frv s.data.toList ∧ 13 - (k + 1) + r.size < f - 1) ∨ 10000 ≤ z ∧ 10000 ≤ frv s.data.toList) := hide (by
            rcases HZ.out with ⟨h1, h2⟩ | h
            · obtain ⟨f, rfl⟩ : ∃ f', f = f' + 1 := ⟨f - 1, by omega⟩
              exact .inl ⟨by rw [← h1, frF_skip hlt (by rw [← HTD.out]; exact pre_short hl)]; rfl, by omega⟩
            · exact .inr h)
          have g1 : decide ((T.size : Int) ≤ (r.size : Int)) = false := decide_eq_false (by omega)
          have g2 : decide (T.size ≤ r.size) = false := decide_eq_false (by omega)
          clear hl
          go_wp2
          go_quiet (fail)
          go_wp2
          go_roundw
          case rel => exact ⟨k + 1, z, f - 1, _, r, by omega, by go_num, rfl, rfl, M.out, hsz, rfl⟩
          case measure => simp [intOf]; omega
        · have g1 : decide ((T.size : Int) ≤ (r.size : Int)) = true := decide_eq_true (by omega)
          have e1 := pre_cut hl
          cases q : pre r T
          · rw [q] at e1
            have M : Hid ((z + frF (f - 1) (k + 1) r.data.toList = frv s.data.toList ∧ 13 - (k + 1) + r.size < f - 1) ∨ 10000 ≤ z ∧ 10000 ≤ frv s.data.toList) := hide (by
              rcases HZ.out with ⟨h1, h2⟩ | h
              · obtain ⟨f, rfl⟩ : ∃ f', f = f' + 1 := ⟨f - 1, by omega⟩
                exact .inl ⟨by rw [← h1, frF_skip hlt (by rw [← HTD.out]; exact q)]; rfl, by omega⟩
              · exact .inr h)
            go_wp2
            go_quiet (fail)
            go_wp2
            go_roundw
            case rel => exact ⟨k + 1, z, f - 1, _, r, by omega, by go_num, rfl, rfl, M.out, hsz, rfl⟩
            case measure => simp [intOf]; omega
          · rw [q] at e1
            rcases (by omega : z < 10000 ∨ 10000 ≤ z) with hz | hz
            · have l1 : decide ((z : Int) < 10000) = true := decide_eq_true (by omega)
              have D := hide (drop_ext r T.size)
              have DS := drop_size r T.size
              have M : Hid ((z + V + frF (f - 1) k (r.extract T.size r.size).data.toList = frv s.data.toList ∧ 13 - k + (r.size - T.size) < f - 1) ∨ 10000 ≤ z + V ∧ 10000 ≤ frv s.data.toList) := hide (by
                rcases HZ.out with ⟨h1, h2⟩ | h
                · obtain ⟨f, rfl⟩ : ∃ f', f = f' + 1 := ⟨f - 1, by omega⟩
                  refine .inl ⟨?_, by omega⟩
                  rw [← h1, frF_take hlt (by rw [← HTD.out]; exact q), ← HV.out, ← HTD.out, D.out, data_len]
                  show z + V + frF f k _ = _
                  omega
                · exact .inr ⟨by omega, h.2⟩)
              go_wp2
              go_quiet (fail)
              go_wp2
              go_roundw
              case rel => exact ⟨z + V, f - 1, _, _, by go_num, rfl, by rw [DS]; exact M.out, by rw [DS]; omega, rfl⟩
              case measure => simp [strLen]; omega
            · have l1 : decide ((z : Int) < 10000) = false := decide_eq_false (by omega)
              have M : Hid (10000 ≤ z ∧ 10000 ≤ frv s.data.toList) := hide (by
                rcases HZ.out with ⟨h1, h2⟩ | h
                · omega
                · exact h)
              go_wp2
              go_quiet (fail)
              go_wp2
              go_roundw
              case rel => exact ⟨k + 1, z, f, _, r, by omega, by go_num, rfl, rfl, .inr M.out, hsz, rfl⟩
              case measure => simp [intOf]; omega
    · obtain rfl : k = 13 := by omega
      have E : Hid (z = frv s.data.toList ∨ 10000 ≤ z ∧ 10000 ≤ frv s.data.toList) := hide (by
        rcases HZ.out with ⟨h1, _⟩ | h
        · rw [frF_end] at h1; exact .inl h1
        · exact .inr h)
      go_wp2
      go_ret
      exact ⟨z, rfl, E.out, bl_drewN hb _⟩

theorem FromRoman_s (s : ByteArray) (w : World) (hs : s.size ≤ 1048576) :
    Calls Tryd.prog 12 #[.string s] w fun e w' => e = .returned (rvp (fr s.data.toList)) ∧ Below w.heap.size w w' := by
  go_enter Tryd.func12, Tryd.ntmps12
  go_wp2_with fail
  refine (romanValue_s _ _ hs).mono ?_
  rintro e u1 ⟨z, rfl, hz, hb⟩
  cases q : inB (z : Int) 1 3999
  · have E : Hid (fr s.data.toList = (0, false)) := hide (by
      have hq : ¬ (1 ≤ (z : Int) ∧ (z : Int) ≤ 3999) := fun k => by rw [← inB_iff, q] at k; cases k
      unfold fr; rw [if_neg]; intro k
      unfold okR at k
      simp only [Bool.and_eq_true, decide_eq_true_eq] at k
      have := k.1
      omega)
    clear hz
    go_wp2_with (go_at_call 20; refine (inRange_any _ _ _ _).mono ?_; rintro e w' ⟨rfl, rfl⟩)
    go_ret2
    exact ⟨by rw [E.out]; rfl, hb⟩
  · obtain ⟨q0, q1⟩ := inB_iff.1 q
    have E1 : frv s.data.toList = z := by omega
    have er := romN_yes (m := z) (by omega)
    by_cases ha : bs (rom 0 z) = s
    · have ty : ((bs (rom 0 z)).toList == s.toList) = true := by rw [ha]; exact teq_yes s
      have h0 : 0 < s.size := by rw [← ha, bs_size]; exact rom_pos (by omega)
      have E := hide (fr_yes E1 h0 (by rw [er]; exact ha))
      clear ha E1 er hz h0
      go_wp2_with (go_at_call 20; refine (inRange_any _ _ _ _).mono ?_; rintro e w' ⟨rfl, rfl⟩)
      refine (roman_s z _ (by omega)).mono ?_
      rintro e u2 ⟨rfl, hb2⟩
      go_wp2
      go_ret2
      exact ⟨by rw [E.out]; rfl, bl_call hb2 hb⟩
    · have ty : ((bs (rom 0 z)).toList == s.toList) = false := teq_no ha
      have E := hide (fr_not E1 (by rw [er]; exact ha))
      clear ha E1 er hz
      go_wp2_with (go_at_call 20; refine (inRange_any _ _ _ _).mono ?_; rintro e w' ⟨rfl, rfl⟩)
      refine (roman_s z _ (by omega)).mono ?_
      rintro e u2 ⟨rfl, hb2⟩
      go_wp2
      go_ret2
      exact ⟨by rw [E.out]; rfl, bl_call hb2 hb⟩
end Go.Proofs.YtonkbakoifdmiaaDoor
