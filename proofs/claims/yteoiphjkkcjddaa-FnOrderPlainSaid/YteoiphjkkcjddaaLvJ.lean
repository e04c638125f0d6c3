/- LevelsOf and ShowText in the program. -/
import Derived.Test.YteoiphjkkcjddaaLvI
import Derived.Test.YteoiphjkkcjddaaDirO
import Derived.Test.YteoiphjkkcjddaaPat
namespace Go.Proofs.Yteoiphjkkcjddaa
open Go.ChangeShapes Go.WideShapes Go.ChangeAt Go.RowKit
set_option linter.unusedVariables false

theorem bl_call2 {w w0 w1 : World} {B : Nat} (h : Below B w w1) (h0 : Below B w0 w) : Below B w0 w1 := h0.trans h
theorem okB_inB (b : Int) : okB b = inB b 0 1 := rfl
theorem txt_drop {s : ByteArray} {k : Nat} (h : k < s.size) : s.data.toList.drop k = s[k] :: s.data.toList.drop (k + 1) := by
  rw [List.drop_eq_getElem_cons (by simpa using h)]; rfl
set_option maxHeartbeats 1000000 in
theorem LevelsOf_i (s : ByteArray) (b : Int) (w : World) (hs : s.size ≤ 4611686018427387904) :
    Calls Try.prog 18 #[.string s, .int .i64 b] w fun e w' => ∃ A c, e = .returned (.slice A (lvO s.data.toList b).length c) ∧ OL w' 3 w.heap.size A c (lvO s.data.toList b) ∧ Below w.heap.size w w' := by
  cases q : okT s.data.toList
  · have E := hide (lvO_no (s := s.data.toList) (b := b) (.inl q))
    go_enter Try.func18, Try.ntmps18
    go_wp2_with (go_at_call 39; refine (validText_i _ _ hs).mono ?_; rintro e w' ⟨rfl, rfl⟩)
    go_ret
    rw [E.out]
    exact ⟨none, 0, rfl, OL.nil _ _ _, bl_refl _⟩
  · cases q2 : inB b 0 1
    · have E := hide (lvO_no (s := s.data.toList) (b := b) (.inr q2))
      go_enter Try.func18, Try.ntmps18
      go_wp2_with (first | (go_at_call 39; refine (validText_i _ _ hs).mono ?_; rintro e w' ⟨rfl, rfl⟩) | (go_at_call 40; refine (within_any _ _ _ _).mono ?_; rintro e w' ⟨rfl, rfl⟩))
      go_ret
      rw [E.out]
      exact ⟨none, 0, rfl, OL.nil _ _ _, bl_refl _⟩
    · have E := hide (lvO_yes (s := s.data.toList) (b := b) q q2)
      have hb := inB_iff.1 q2
      have hlen : s.size ≤ 60 := by have := (okT_iff.1 q).1; rwa [txt_len] at this
      obtain ⟨T, hT⟩ : ∃ T, T = lvO s.data.toList b := ⟨_, rfl⟩
      have HT : Hid (T = [] ++ lvs b b (2 * b) 0 (s.data.toList.drop 0)) := hide (by rw [hT, E.out]; rfl)
      rw [← hT]
      clear hT E
      go_enter Try.func18, Try.ntmps18
      go_wp2_with (first | (go_at_call 39; refine (validText_i _ _ hs).mono ?_; rintro e w' ⟨rfl, rfl⟩) | (go_at_call 40; refine (within_any _ _ _ _).mono ?_; rintro e w' ⟨rfl, rfl⟩))
      have L0 : Hid (LR (w.alloc (.cells #[.int .i64 b, .slice none 0 0, .int .i64 b, .int .i64 (2 * b), .int .i64 0] 38)) 3 w.heap.size w.heap.size b [] b (2 * b) 0) := hide
        ⟨Nat.le_refl _, by simp, fun i => by simp, by simp, by simp, by simp, by simp, none, 0, by simp, OL.nil _ _ _, fun k hk => by simp [Value.ownBlock] at hk⟩
      go_loopw [22] (fun i u => ∃ (p : Nat) (L : List Int) (be d : Int) (n : Nat), p ≤ s.size ∧ i = .int .i64 p ∧ L.length + n = p ∧ (0 ≤ be ∧ be ≤ 2) ∧ (0 ≤ d ∧ d ≤ 2) ∧ LR u 3 w.heap.size w.heap.size b L be d n ∧ T = L ++ lvs b be d n (s.data.toList.drop p) ∧ Below w.heap.size w u) (fun i _ => s.size - (intOf i).toNat)
      case atStart => exact ⟨0, [], b, 2 * b, 0, by omega, rfl, rfl, by omega, by omega, L0.out, HT.out, bl_alloc (bl_refl _) _⟩
      case round =>
        obtain ⟨p, L, be, d, n, hp, rfl, hLn, hbe, hd, hlr, hT, hbl⟩ := hrel
        have hz : w.heap.size ≤ wr.heap.size := hbl.size
        by_cases hlt : p < s.size
        · have RC := hide (read_i wr w.heap.size w.heap.size n b be d s[p] L hlr hz hb hbe hd (by omega))
          have ET : Hid (∀ (L' : List Int) (be' d' : Int) (n' : Nat), (∀ cs, L ++ lvs b be d n (s[p] :: cs) = L' ++ lvs b be' d' n' cs) → T = L' ++ lvs b be' d' n' (s.data.toList.drop (p + 1))) := hide (fun L' be' d' n' h => by rw [hT, txt_drop hlt, h])
          clear hlr hT
          go_wp2_with fail
          (with_reducible refine RC.out.mono ?_)
          rintro e u1 ⟨rfl, ⟨L', be', d', n', hlr, hl, hbe', hd', hcs⟩, hb1⟩
          have E1 := hide (ET.out L' be' d' n' hcs)
          clear hcs
          go_wp2
          go_roundw
          case rel => exact ⟨p + 1, L', be', d', n', by omega, by go_num, by omega, hbe', hd', hlr, E1.out, bl_call2 hb1 hbl⟩
          case measure => simp [intOf]; omega
        · have hd0 : s.data.toList.drop p = [] := List.drop_eq_nil_of_le (by rw [txt_len]; omega)
          have RC := settle_i wr w.heap.size w.heap.size n b be d b L hlr hz hb hbe (by omega) (by omega)
          have E2 : L ++ List.replicate n (stl b be b) = T := by rw [hT, hd0, lvs_nil]
          rw [E2] at RC
          have RC := hide RC
          clear hlr hT hd0 E2
          go_wp2_with fail
          (with_reducible refine RC.out.mono ?_)
          rintro e u1 ⟨rfl, hlr, hb1⟩
          obtain ⟨_, hg, hf, _, _, _, _, A, c, k1, ho, _⟩ := hlr
          clear hf
          go_wp2
          go_ret
          exact ⟨A, c, rfl, ho, bl_call2 hb1 hbl⟩

/-- The characters of a text in the order of its levels. -/
def shO (s : List UInt8) (b : Int) : List UInt8 := (ordO (lvO s b)).map fun i => bg s i.toNat
theorem shO_len (s : List UInt8) (b : Int) : (shO s b).length = (ordO (lvO s b)).length := by simp [shO]
theorem ordO_nil : ordO [] = [] := by rw [ordO_yes (by decide)]; rfl
theorem shO_in {s : List UInt8} {b : Int} {p : Nat} (h : p < (ordO (lvO s b)).length) : 0 ≤ ng (ordO (lvO s b)) p ∧ ng (ordO (lvO s b)) p < s.length := by
  by_cases hq : okT s = true ∧ okB b = true
  · have e := lvO_yes hq.1 hq.2
    cases k : okL (lvO s b)
    · rw [ordO_no k] at h; simp at h
    · have := (ordL_inx (lvO s b)).2 (ng (ordL (lvO s b)) p) (ng_mem (by rwa [ordO_yes k] at h))
      rw [ordO_yes k]
      rw [e, lvL_len] at this
      rw [e]
      exact this
  · rw [show lvO s b = [] by unfold lvO; rw [if_neg hq], ordO_nil] at h
    simp at h
theorem sh_next {s : List UInt8} {b : Int} {p k : Nat} (h : p < (ordO (lvO s b)).length) (hk : ng (ordO (lvO s b)) p = k) : (shO s b).take p ++ [bg s k] = (shO s b).take (p + 1) := by
  refine btake_next (by rw [shO_len]; exact h) ?_
  rw [bg_lt (by rw [shO_len]; exact h)]
  simp only [shO, List.getElem_map]
  rw [← ng_lt h, hk, Int.toNat_natCast]
theorem conv_any {w : World} {B c : Nat} {A : Option Addr} {l : List UInt8} (h : OB w 5 B A c l) : (convert 30 9 (.slice A l.length c)).run Try.prog w = .ok (.string ⟨l.toArray⟩) w := by
  rcases Nat.eq_zero_or_pos l.length with h0 | h0
  · have e := List.eq_nil_of_length_eq_zero h0
    subst e
    rw [run_convert_bytes_string _ 30 9 5 _ _ _ Try.underlying30 Try.underlying5 Try.underlying9]
    cases A with
    | none => rfl
    | some a =>
      show (Conv.bytesToString (.slice (some a) 0 c)).run Try.prog w = _
      rw [run_bytesToString _ _ 0 c []]
      · rfl
      · simp [loadCells, loadCellsFrom]
  · exact conv_bytes h h0

set_option maxHeartbeats 1000000 in
theorem ShowText_i (s : ByteArray) (b : Int) (w : World) (hs : s.size ≤ 4611686018427387904) :
    Calls Try.prog 26 #[.string s, .int .i64 b] w fun e w' => e = .returned (.string ⟨(shO s.data.toList b).toArray⟩) ∧ Below w.heap.size w w' := by
  have hl6 := lvO_len s.data.toList b
  have ho6 := ordO_len (lvO s.data.toList b)
  have hl := shO_len s.data.toList b
  have hin := fun p => shO_in (s := s.data.toList) (b := b) (p := p)
  have hnx := fun p k => sh_next (s := s.data.toList) (b := b) (p := p) (k := k)
  obtain ⟨L, hL⟩ : ∃ L, L = lvO s.data.toList b := ⟨_, rfl⟩
  obtain ⟨S, hS⟩ : ∃ S, S = shO s.data.toList b := ⟨_, rfl⟩
  have RL := fun (u : World) => LevelsOf_i s b u hs
  rw [← hL] at hl6 ho6 hl RL
  simp only [← hL, ← hS] at hin hnx
  rw [← hS] at hl ⊢
  obtain ⟨O, hO⟩ : ∃ O, O = ordO L := ⟨_, rfl⟩
  have RO := fun (u : World) (A : Option Addr) (c : Nat) (h : IL u A L.length L) => OrderOf_i u A L.length c L h (by omega)
  rw [← hO] at ho6 hl RO
  simp only [← hO] at hin hnx
  have RL := hide RL
  have RO := hide RO
  have HIN := hide hin
  have HNX := hide hnx
  have HSL := hide hl
  obtain ⟨ib, hib, kz0, kz1, kz2⟩ := info_parts u8_info
  clear hL hS hO hin hnx hl
  go_enter Try.func26, Try.ntmps26
  go_wp2_with fail
  (with_reducible refine (RL.out _).mono ?_)
  rintro e u1 ⟨A1, c1, rfl, ho1, hb1⟩
  go_wp2_with fail
  (with_reducible refine (RO.out _ _ _ ho1.reads).mono ?_)
  rintro e u2 ⟨A2, c2, rfl, ho2, hb2⟩
  have hb3 := hide (bl_call hb2 hb1)
  have HO := hide ho2.reads
  have z1 := hb1.size
  have z2 := hb2.size
  clear ho1 hb1 ho2 hb2
  go_wp2
  go_loopw [5, 13] (fun o i u => ∃ (p : Nat) (A' : Option Addr) (c' : Nat), p ≤ O.length ∧ o = .slice A' p c' ∧ i = .int .i64 p ∧ OB u 5 u2.heap.size A' c' (S.take p) ∧ Below u2.heap.size u2 u) (fun _ i _ => O.length - (intOf i).toNat)
  case atStart => exact ⟨0, none, 0, by omega, rfl, rfl, OB.nil _ _ _, bl_refl _⟩
  case round =>
    obtain ⟨p, A0, c0, hp, rfl, rfl, hob, hbl⟩ := hrel
    have hz : u2.heap.size ≤ wr.heap.size := hbl.size
    have hSp : p = (S.take p).length := by rw [List.length_take, HSL.out]; omega
    have HSP := hide hSp
    clear hSp
    by_cases hlt : p < O.length
    · obtain ⟨bb, o, rfl, hbv, hc⟩ := HO.out.at_ hlt
      have hc := keep_cell hbl hc
      obtain ⟨y0, y1⟩ := HIN.out p hlt
      obtain ⟨y, hy⟩ : ∃ y, y = ng O p := ⟨_, rfl⟩
      rw [← hy] at hc y0 y1
      obtain ⟨k, rfl⟩ := Int.eq_ofNat_of_zero_le y0
      have hk : k < s.size := by rw [txt_len] at y1; omega
      have N1 := HNX.out p k hlt hy.symm
      rw [bg_at hk] at N1
      have N1 := hide N1
      clear hy y0 y1
      go_wp2_with (at_builtin; refine wpList_append_byte rfl (.tmp 17) (.tmp 21) _ rfl 5 ib Try.underlying30 hib kz0 kz1 kz2 (u2.heap.size) A0 c0 p (S.take p) rfl (HSP.out) (hob.alloc _) wr.heap.size s[k] rfl (by simp) (by omega) (by simp; omega) ?_; intro A' c' w' hol' hb' hg')
      rw [N1.out] at hol'
      go_roundw
      case rel => exact ⟨p + 1, A', c', by omega, rfl, by go_num, hol', (bl_alloc hbl _).trans hb'⟩
      case measure => simp [intOf]; omega
    · have e : S.take p = S := List.take_of_length_le (by rw [HSL.out]; omega)
      rw [e] at hob
      have hcv := conv_any hob
      have hpl : S.length = p := by rw [HSL.out]; omega
      rw [hpl] at hcv
      have HB := hide (bl_call hbl hb3.out)
      clear hob hbl e hpl
      go_wp2
      go_ret
      exact ⟨rfl, HB.out⟩
end Go.Proofs.Yteoiphjkkcjddaa
