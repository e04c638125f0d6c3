/- Rows without spaces at their ends, in the program and in its model. -/
import Derived.Test.YtpgcpmfnidjhnaaDoorTrM
import Derived.Test.YtpgcpmfnidjhnaaDoorTxt
import Derived.Test.YtpgcpmfnidjhnaaDoorClone
import Derived.LoopTactic
namespace Go.Proofs.YtpgcpmfnidjhnaaDoor
open Go.ChangeShapes Go.WideShapes Go.ChangeAt Go.RowKit
set_option linter.unusedVariables false
open Classical

theorem ext_size {s : ByteArray} {n : Nat} (h : n ≤ s.size) : (s.extract 0 n).size = n := by simp; omega
theorem ext_get {s : ByteArray} {n k : Nat} (hn : n ≤ s.size) (hk : k < n) (h : k < (s.extract 0 n).size) : (s.extract 0 n)[k] = s[k]'(by omega) := by
  rw [ByteArray.getElem_extract]; simp
theorem ext_ext {s : ByteArray} {n k : Nat} (hk : k ≤ n) : (s.extract 0 n).extract 0 k = s.extract 0 k := by
  apply ByteArray.ext
  rw [ByteArray.data_extract, ByteArray.data_extract, ByteArray.data_extract, Array.extract_extract]
  congr 1 <;> omega
theorem ext_all (s : ByteArray) : s.extract 0 s.size = s := by
  apply ByteArray.ext
  simp [ByteArray.data_extract]
/-- s[:k] of a text. -/
theorem txt_to (t : ByteArray) (k : Nat) (hk : k ≤ t.size) (W : World) : (Instr.slice 9 (.string t) none (some (.int .i64 k)) none).run Tryd.prog W = .ok (.string (t.extract 0 k)) W := by
  have := run_slice_string_h (P := Tryd.prog) W 9 t Tryd.underlying9 .i64 (k : Int) (by omega) (by omega)
  rw [this]
  simp

def lenOf : Value → Nat
  | .slice _ k _ => k
  | _ => 0
def szOf : Value → Nat
  | .string t => t.size
  | _ => 0
set_option maxHeartbeats 1000000 in
theorem trimByte_any (s : ByteArray) (w : World) (hs : s.size ≤ 1048576) :
    Calls Tryd.prog 22 #[.string s, .int .u8 32] w fun e w' => e = .returned (.string (tr s)) ∧ w = w' := by
  go_enter Tryd.func22, Tryd.ntmps22
  go_wp2
  go_loop [0] (fun v => ∃ (n : Nat) (t : ByteArray), t.size = n ∧ n ≤ s.size ∧ v = .string t ∧ t = s.extract 0 n ∧ tn s s.size = tn s n) (fun v => szOf v)
  case atStart => exact ⟨s.size, s, rfl, Nat.le_refl _, rfl, (ext_all s).symm, rfl⟩
  case round =>
    obtain ⟨n, t, hn, hle, rfl, ht, htn⟩ := hrel
    have HT := hide ht
    have HN := hide htn
    clear ht htn
    rcases Nat.eq_zero_or_pos n with h0 | h0
    · have E := hide (show tr s = t by rw [tr, HN.out, HT.out, h0]; rfl)
      have g0 : decide ((0 : Int) < (t.size : Int)) = false := decide_eq_false (by omega)
      have g0' : ¬ 0 < t.size := by omega
      clear h0
      go_wp2
      go_ret
      exact ⟨str_ret E.out.symm, rfl⟩
    · obtain ⟨m, hm⟩ : ∃ m, m = n - 1 := ⟨_, rfl⟩
      have hms : m < s.size := by omega
      have hmt : m < t.size := by omega
      have em : (t.size : Int) - 1 = (m : Int) := by omega
      have g0 : (0 : Int) < (t.size : Int) := by omega
      have g0' : 0 < t.size := by omega
      have hb : t[m].toNat < 256 := UInt8.toNat_lt _
      have eb : (t[m].toNat : Int) = (s[m].toNat : Int) := by
        have : t[m] = s[m] := by
          have := HT.out
          subst this
          exact ext_get hle (by omega) hmt
        rw [this]
      have SL := txt_to t m (by omega)
      have hms2 : (t.extract 0 m).size = m := ext_size (by omega)
      have NX := hide (show t.extract 0 m = s.extract 0 m by rw [HT.out]; exact ext_ext (by omega))
      have HM := hide (show n = m + 1 by omega)
      rcases (by omega : (t[m].toNat : Int) = 32 ∨ (t[m].toNat : Int) ≠ 32) with h1 | h1
      · have M := hide (show tn s s.size = tn s m by rw [HN.out, HM.out]; exact tn_sp hms (by rw [← eb]; exact h1))
        have q : ((t[m].toNat : Int) == 32) = true := by simp [h1]
        clear hm eb h1 h0 hn
        go_wp2
        go_round
        case rel => exact ⟨m, _, hms2, by omega, rfl, NX.out, M.out⟩
        case measure =>
          show (t.extract 0 m).size < t.size
          rw [hms2]
          exact hmt
      · have E := hide (show tr s = t by rw [tr, HN.out, HM.out, tn_no hms (by rw [← eb]; exact h1), HT.out, HM.out])
        have q : ((t[m].toNat : Int) == 32) = false := beq_eq_false_iff_ne.2 h1
        clear hm eb h1 h0 hn
        go_wp2
        go_ret
        exact ⟨str_ret E.out.symm, rfl⟩
theorem tr_empty {s : ByteArray} (h : s.size = 0) : tr s = s := by
  have : tn s s.size = 0 := by have := tn_le s s.size; omega
  rw [tr, this]
  apply ByteArray.ext
  have hd : s.data = #[] := Array.eq_empty_of_size_eq_zero h
  simp [ByteArray.data_extract, hd]
theorem nil_iff {s : ByteArray} : s.toList = [] ↔ s.size = 0 := by
  rw [Lib.toList_data, Lib.size_eq]
  constructor
  · intro h; rw [h]; rfl
  · exact List.eq_nil_of_length_eq_zero
set_option maxRecDepth 8000 in
set_option maxHeartbeats 1000000 in
theorem TrimRight_any (s : ByteArray) (w : World) (hs : s.size ≤ 1048576) :
    Calls Tryd.prog 16 #[.string s, .string ⟨#[32]⟩] w fun e w' => e = .returned (.string (tr s)) ∧ w = w' := by
  rcases Nat.eq_zero_or_pos s.size with h0 | h0
  · have E := hide (tr_empty h0)
    have q : s.toList = [] := nil_iff.2 h0
    have q' : s.toList.isEmpty = true := by rw [q]; rfl
    go_enter Tryd.func16, Tryd.ntmps16
    go_wp2
    go_ret
    exact ⟨str_ret E.out.symm, rfl⟩
  · have q : ¬ s.toList = [] := fun h => by have := nil_iff.1 h; omega
    have q' : s.toList.isEmpty = false := by rw [Bool.eq_false_iff]; intro h; exact q (by simpa using h)
    have q2 : ¬ s = ByteArray.empty := fun h => by rw [h] at h0; simp at h0
    clear h0
    go_enter Tryd.func16, Tryd.ntmps16
    go_wp2_with fail
    refine (trimByte_any s _ hs).mono ?_
    rintro e w' ⟨rfl, rfl⟩
    go_wp2
    go_ret
    exact ⟨rfl, rfl⟩
theorem bl_belowR {w u v : World} {o : Obj} {B : Nat} (h : Below w.heap.size w u) (hb : Below B (u.alloc o) v) (hB : w.heap.size ≤ B) : Below w.heap.size w v := (bl_alloc h o).trans (hb.mono hB)
theorem tr_le (s : ByteArray) : (tr s).size ≤ s.size := by rw [tr_size]; exact tn_le _ _
def RetT (w : World) (l : List ByteArray) (e : Ending) (w' : World) : Prop := ∃ A c, e = .returned (.slice A l.length c) ∧ OS w' 9 w.heap.size A c l ∧ Below w.heap.size w w'
theorem RetT.no {w w' : World} {l : List ByteArray} (h : l = []) (hb : Below w.heap.size w w') : RetT w l (.returned (.slice none 0 0)) w' := by
  subst h
  exact ⟨none, 0, rfl, OS.nil _ _ _, hb⟩
set_option maxRecDepth 8000 in
set_option maxHeartbeats 4000000 in
theorem TrimRows_i (w : World) (A : Option Addr) (n c : Nat) (l : List ByteArray) (ha : SL w A n l) (hs : ∀ k, k < l.length → (sg l k).size ≤ 1048576) (hn : n ≤ 4611686018427387904) :
    Calls Tryd.prog 8 #[.slice A n c] w (RetT w (trR l)) := by
  obtain rfl : n = l.length := ha.1
  rcases (by omega : 60 < l.length ∨ l.length ≤ 60) with hl | hl
  · have E := hide (trR_long hl)
    go_enter Tryd.func8, Tryd.ntmps8
    go_wp2
    go_ret
    exact RetT.no E.out (bl_refl _)
  obtain ⟨i0, hi0, jz0, jz1, jz2⟩ := info_parts str_info
  have HA := hide ha
  have HS := hide hs
  clear ha hs hn
  go_enter Tryd.func8, Tryd.ntmps8
  go_wp2
  go_loopw [12, 3, 4] (fun i v us u => ∃ (p q : Nat) (A' : Option Addr) (cc : Nat) (L : List ByteArray), p ≤ l.length ∧ i = .int .i64 p ∧ q ≤ p ∧ us = .int .i64 q ∧ q = used l p ∧ v = .slice A' p cc ∧ p = L.length ∧ L = (l.map tr).take p ∧ RTo l p ∧ OS u 9 w.heap.size A' cc L ∧ Below w.heap.size w u) (fun i _ _ _ => l.length - (intOf i).toNat)
  case atStart => exact ⟨0, 0, none, 0, [], by omega, rfl, by omega, rfl, rfl, rfl, rfl, rfl, RTo.zero _, OS.nil _ _ _, bl_refl _⟩
  case round =>
    obtain ⟨p, q, A', cc, L, hp, rfl, hq, rfl, hus, rfl, hpl, hL, hR, hol, hbl⟩ := hrel
    have HU := hide hus
    have HPL := hide hpl
    have HL := hide hL
    have HR := hide hR
    clear hus hpl hL hR
    by_cases hlt : p < l.length
    · obtain ⟨b, o, rfl, hb0, c0⟩ := (HA.out.below hbl).at_ hlt
      have hsz := HS.out p hlt
      have NXM := hide (map_next (l := l) hlt rfl)
      have UN := hide (fun h => used_no (l := l) (k := p) h)
      have UY := hide (fun h => used_yes (l := l) (k := p) h)
      have BAD := hide (fun h => trR_bad (l := l) hlt h)
      have NXR := hide (fun h => HR.out.step h)
      obtain ⟨s, hsd⟩ : ∃ s, s = sg l p := ⟨_, rfl⟩
      rw [← hsd] at c0 hsz NXM UN UY BAD NXR
      clear hsd
      have HB := hide hbl
      have HO := hide hol
      clear hbl hol
      cases q0 : okX s
      · have E := hide (BAD.out q0)
        clear BAD NXR
        go_wp2_with (go_at_call 15; (with_reducible refine (validText_x _ _ (by omega)).mono ?_); rintro e w' ⟨rfl, rfl⟩)
        go_ret
        exact RetT.no E.out HB.out
      · have M := hide (NXR.out q0)
        have h60 := (okX_iff.1 q0).1
        have htl := tr_le s
        obtain ⟨t, ht⟩ : ∃ t, t = tr s := ⟨_, rfl⟩
        have CT := hide (fun (u : World) => TrimRight_any s u hsz)
        rw [← ht] at CT htl NXM UN UY
        clear BAD NXR ht
        go_wp2_with (go_at_call 15; (with_reducible refine (validText_x _ _ (by omega)).mono ?_); rintro e w' ⟨rfl, rfl⟩)
        (with_reducible refine (CT.out _).mono ?_)
        rintro e w' ⟨rfl, rfl⟩
        go_wp2_with fail
        (with_reducible refine (Clone_any t _ (by omega)).mono ?_)
        rintro e u1 ⟨rfl, hb1⟩
        have HO1 := hide (HO.out.below hb1)
        have HB1 := hide (bl_call hb1 HB.out)
        have hz1 := HB1.out.size
        clear hb1
        by_cases he : t.size = 0
        · have q1 : t.toList = [] := nil_iff.2 he
          have q1' : t.toList.isEmpty = true := by rw [q1]; rfl
          have ee : t = ByteArray.empty := ByteArray.ext (Array.eq_empty_of_size_eq_zero he)
          have U := hide (UN.out ee)
          clear he ee
          go_wp2_with (at_builtin; refine wpList_append_str rfl (.tmp 22) (.tmp 25) _ rfl 9 i0 Tryd.underlying22 hi0 jz0 jz1 jz2 w.heap.size A' cc p L rfl (HPL.out) (HO1.out.alloc _) u1.heap.size t rfl (by simp) (by omega) (by simp; omega) ?_; intro A' c' w' hol' hb' hg')
          go_roundw
          case rel => exact ⟨p + 1, q, _, c', L ++ [t], by omega, by go_num, by omega, rfl, by rw [HU.out]; exact U.out.symm, rfl, by simp [HPL.out], by rw [HL.out]; exact NXM.out, M.out, hol', bl_belowR HB1.out hb' (by omega)⟩
          case measure => simp [intOf]; omega
        · have q1 : ¬ t.toList = [] := fun h => he (nil_iff.1 h)
          have q1' : t.toList.isEmpty = false := by rw [Bool.eq_false_iff]; intro h; exact q1 (by simpa using h)
          have ee : t ≠ ByteArray.empty := fun h => he (by rw [h]; rfl)
          have U := hide (UY.out ee)
          clear he ee
          go_wp2_with (at_builtin; refine wpList_append_str rfl (.tmp 22) (.tmp 25) _ rfl 9 i0 Tryd.underlying22 hi0 jz0 jz1 jz2 w.heap.size A' cc p L rfl (HPL.out) (HO1.out.alloc _) u1.heap.size t rfl (by simp) (by omega) (by simp; omega) ?_; intro A' c' w' hol' hb' hg')
          go_roundw
          case rel => exact ⟨p + 1, p + 1, _, c', L ++ [t], by omega, by go_num, by omega, by go_num, U.out.symm, rfl, by simp [HPL.out], by rw [HL.out]; exact NXM.out, M.out, hol', bl_belowR HB1.out hb' (by omega)⟩
          case measure => simp [intOf]; omega
    · have hpe : p = l.length := by omega
      have hul := used_le l l.length
      have E := hide (show trR l = L.take q by rw [trR_yes hl (by rw [← hpe]; exact HR.out), HL.out, HU.out, hpe, List.take_take, Nat.min_eq_left hul])
      rcases Nat.eq_zero_or_pos l.length with h0 | h0
      · have hq0 : q = 0 := by omega
        have hp0 : p = 0 := by omega
        have E2 : Hid (trR l = []) := hide (by rw [E.out, hq0]; rfl)
        have hcc := OS_cap hol
        clear hpe hul
        subst hq0
        subst hp0
        go_wp2
        go_ret
        have hL0 : L = [] := List.eq_nil_of_length_eq_zero HPL.out.symm
        subst hL0
        exact ⟨A', cc, by rw [E2.out]; rfl, by rw [E2.out]; exact hol, hbl⟩
      · obtain ⟨g, rfl, hB, hg, hlc, hcm⟩ := hol.form (by rw [← HPL.out]; omega)
        have O := hide (hol.take (k := q) (by rw [← HPL.out]; omega) (by rw [← HPL.out]; omega))
        have LN := hide (show (L.take q).length = q from stake_len (by rw [← HPL.out]; omega))
        have hqc : q ≤ cc := by have := HPL.out; omega
        have hc0 : ¬ cc = 0 := by have := HPL.out; omega
        unfold maxLen at hcm
        clear hol hlc hul hpe
        go_wp2
        go_ret
        exact ⟨_, cc, by rw [E.out, LN.out] <;> rfl, by rw [E.out]; exact O.out, hbl⟩
theorem used_back {l : List ByteArray} {m : Nat} (hm : m < l.length) (h : used l l.length ≤ m + 1) (he : tr (sg l m) = ByteArray.empty) : used l l.length ≤ m := by
  have key : ∀ k, used l k = 0 ∨ ∃ j, j + 1 = used l k ∧ tr (sg l j) ≠ ByteArray.empty := by
    intro k
    induction k with
    | zero => exact .inl rfl
    | succ k ih =>
      by_cases q : tr (sg l k) = ByteArray.empty
      · rw [used_no q]; exact ih
      · exact .inr ⟨k, by rw [used_yes q], q⟩
  rcases key l.length with k | ⟨j, hj, hne⟩
  · omega
  · rcases Nat.lt_or_ge (used l l.length) (m + 1) with q | q
    · omega
    · have : j = m := by omega
      rw [this] at hne
      exact absurd he hne
theorem used_end {l : List ByteArray} {m : Nat} (hm : m < l.length) (h : used l l.length ≤ m + 1) (he : tr (sg l m) ≠ ByteArray.empty) : used l l.length = m + 1 := by
  have key : ∀ k, m < k → m + 1 ≤ used l k := by
    intro k
    induction k with
    | zero => intro h; omega
    | succ k ih =>
      intro h
      by_cases q : tr (sg l k) = ByteArray.empty
      · rw [used_no q]
        refine ih ?_
        rcases (by omega : m < k ∨ m = k) with e | e
        · exact e
        · rw [← e] at q; exact absurd q he
      · rw [used_yes q]; omega
  have := key _ hm
  omega
set_option maxRecDepth 8000 in
set_option maxHeartbeats 4000000 in
theorem TrimRows_s (w : World) (A : Option Addr) (n c : Nat) (l : List ByteArray) (ha : SL w A n l) (hs : ∀ k, k < l.length → (sg l k).size ≤ 1048576) (hn : n ≤ 4611686018427387904) :
    Calls Tryd.prog 6 #[.slice A n c] w (RetT w (trR l)) := by
  obtain rfl : n = l.length := ha.1
  rcases (by omega : 60 < l.length ∨ l.length ≤ 60) with hl | hl
  · have E := hide (trR_long hl)
    go_enter Tryd.func6, Tryd.ntmps6
    go_wp2
    go_ret
    exact RetT.no E.out (bl_alloc (bl_refl _) _)
  obtain ⟨i0, hi0, jz0, jz1, jz2⟩ := info_parts str_info
  have HA := hide ha
  have HS := hide hs
  have H0 : Hid (OS (w.alloc (.cells #[] 9)) 9 w.heap.size (some ⟨w.heap.size, 0, none⟩) 0 []) := hide (by
    have := OS.lit (w := w) (e := 9) (B := w.heap.size) (Nat.le_refl _) [] (by simp)
    simpa using this)
  clear ha hs hn
  go_enter Tryd.func6, Tryd.ntmps6
  go_wp2
  go_loopw [4, 3] (fun i v u => ∃ (p : Nat) (A' : Option Addr) (cc : Nat) (L : List ByteArray), p ≤ l.length ∧ i = .int .i64 p ∧ v = .slice A' p cc ∧ p = L.length ∧ L = (l.map tr).take p ∧ RTo l p ∧ OS u 9 w.heap.size A' cc L ∧ Below w.heap.size w u) (fun i _ _ => l.length - (intOf i).toNat)
  case atStart => exact ⟨0, _, 0, [], by omega, rfl, rfl, rfl, rfl, RTo.zero _, H0.out, bl_alloc (bl_refl _) _⟩
  case round =>
    obtain ⟨p, A', cc, L, hp, rfl, rfl, hpl, hL, hR, hol, hbl⟩ := hrel
    have HPL := hide hpl
    have HL := hide hL
    have HR := hide hR
    clear hpl hL hR
    by_cases hlt : p < l.length
    · obtain ⟨b, o, rfl, hb0, c0⟩ := (HA.out.below hbl).at_ hlt
      have hsz := HS.out p hlt
      have NXM := hide (map_next (l := l) hlt rfl)
      have BAD := hide (fun h => trR_bad (l := l) hlt h)
      have NXR := hide (fun h => HR.out.step h)
      obtain ⟨s, hsd⟩ : ∃ s, s = sg l p := ⟨_, rfl⟩
      rw [← hsd] at c0 hsz NXM BAD NXR
      clear hsd
      have HB := hide hbl
      have HO := hide hol
      have hz1 := hbl.size
      clear hbl hol
      cases q0 : okX s
      · have E := hide (BAD.out q0)
        clear BAD NXR
        go_wp2_with (go_at_call 14; (with_reducible refine (validText_y _ _ (by omega)).mono ?_); rintro e w' ⟨rfl, rfl⟩)
        go_ret
        exact RetT.no E.out HB.out
      · have M := hide (NXR.out q0)
        clear BAD NXR
        go_wp2_with (go_at_call 14; (with_reducible refine (validText_y _ _ (by omega)).mono ?_); rintro e w' ⟨rfl, rfl⟩)
        go_loop [5] (fun v => ∃ n : Nat, n ≤ s.size ∧ v = .int .i64 n ∧ tn s s.size = tn s n) (fun v => (intOf v).toNat)
        case atStart => exact ⟨s.size, Nat.le_refl _, rfl, rfl⟩
        case round =>
          obtain ⟨n, hle, rfl, htn⟩ := hrel
          have HN := hide htn
          clear htn
          rcases Nat.eq_zero_or_pos n with h0 | h0
          · subst h0
            have E := hide (show tr s = s.extract 0 0 by rw [tr, HN.out]; rfl)
            go_wp2_with (at_builtin; refine wpList_append_str rfl (.tmp 41) (.tmp 48) _ rfl 9 i0 Tryd.underlying22 hi0 jz0 jz1 jz2 w.heap.size A' cc p L rfl (HPL.out) (HO.out.alloc _) wr.heap.size (s.extract 0 0) rfl (by simp) (by omega) (by simp; omega) ?_; intro A' c' w' hol' hb' hg')
            go_roundw
            case rel => exact ⟨p + 1, _, c', L ++ [s.extract 0 0], by omega, by go_num, rfl, by simp [HPL.out], by rw [HL.out, ← E.out]; exact NXM.out, M.out, hol', bl_belowR HB.out hb' (by omega)⟩
            case measure => simp [intOf]; omega
          · obtain ⟨m, hm⟩ : ∃ m, m = n - 1 := ⟨_, rfl⟩
            have hms : m < s.size := by omega
            have em : (n : Int) - 1 = (m : Int) := by omega
            have hb : s[m].toNat < 256 := UInt8.toNat_lt _
            have HM := hide (show n = m + 1 by omega)
            have hn1 : m < n := by omega
            rcases (by omega : (s[m].toNat : Int) = 32 ∨ (s[m].toNat : Int) ≠ 32) with h1 | h1
            · have M2 := hide (show tn s s.size = tn s m by rw [HN.out, HM.out]; exact tn_sp hms h1)
              have q : ((s[m].toNat : Int) == 32) = true := by simp [h1]
              clear hm h1
              go_wp2
              go_round
              case rel => exact ⟨m, by omega, by go_num, M2.out⟩
              case measure => simp [intOf]; omega
            · have E := hide (show tr s = s.extract 0 n by rw [tr, HN.out, HM.out, tn_no hms h1])
              have q : ((s[m].toNat : Int) == 32) = false := beq_eq_false_iff_ne.2 h1
              clear hm h1
              go_wp2_with (at_builtin; refine wpList_append_str rfl (.tmp 41) (.tmp 48) _ rfl 9 i0 Tryd.underlying22 hi0 jz0 jz1 jz2 w.heap.size A' cc p L rfl (HPL.out) (HO.out.alloc _) wr.heap.size (s.extract 0 n) rfl (by simp) (by omega) (by simp; omega) ?_; intro A' c' w' hol' hb' hg')
              go_roundw
              case rel => exact ⟨p + 1, _, c', L ++ [s.extract 0 n], by omega, by go_num, rfl, by simp [HPL.out], by rw [HL.out, ← E.out]; exact NXM.out, M.out, hol', bl_belowR HB.out hb' (by omega)⟩
              case measure => simp [intOf]; omega
    · have hpe : p = l.length := by omega
      have HPE := hide hpe
      have RR := hide (trR_yes hl (show RTo l l.length by rw [← hpe]; exact HR.out))
      have HO0 : Hid (OS wr 9 w.heap.size A' cc ((l.map tr).take l.length)) := hide (by rw [← hpe, ← HL.out]; exact hol)
      have HB := hide hbl
      clear hol hbl HL hpe HR
      go_wp2
      go_loopw [3] (fun v u => ∃ (k : Nat) (A2 : Option Addr), k ≤ l.length ∧ used l l.length ≤ k ∧ v = .slice A2 k cc ∧ (k = 0 → True) ∧ OS u 9 w.heap.size A2 cc ((l.map tr).take k) ∧ Below w.heap.size w u) (fun v _ => lenOf v)
      case atStart => exact ⟨l.length, A', Nat.le_refl _, used_le _ _, by rw [← HPE.out], fun _ => trivial, HO0.out, HB.out⟩
      case round =>
        obtain ⟨k, A2, hk, huk, rfl, _, hol, hbl⟩ := hrel
        have HB := hide hbl
        have HUK := hide huk
        have LK := hide (mtake_len (l := l) hk)
        clear hbl huk
        rcases Nat.eq_zero_or_pos k with h0 | h0
        · subst h0
          have E := hide (show trR l = [] by rw [RR.out, show used l l.length = 0 by have := HUK.out; omega]; rfl)
          have O := hide (show OS wr 9 w.heap.size A2 cc [] from hol)
          clear hol
          go_wp2
          go_ret
          exact ⟨A2, cc, by rw [E.out]; rfl, by rw [E.out]; exact O.out, HB.out⟩
        · obtain ⟨m, hm⟩ : ∃ m, m = k - 1 := ⟨_, rfl⟩
          have hml : m < l.length := by omega
          have em : (k : Int) - 1 = (m : Int) := by omega
          obtain ⟨g, rfl, hBg, hg, hlc, hcm⟩ := hol.form (by rw [LK.out]; exact h0)
          have c0 := hol.reads.at_ (i := m) (by rw [LK.out]; omega)
          obtain ⟨b, o, he, _, c0⟩ := c0
          injection he with he
          cases he
          rw [Nat.zero_add, sg_take (by omega), sg_tr hml] at c0
          have hkc : k ≤ cc := by have := LK.out; omega
          have hmc : m ≤ cc := by omega
          have hc0 : ¬ cc = 0 := by omega
          unfold maxLen at hcm
          have HM := hide (show k = m + 1 by omega)
          have hmk : m < k := by omega
          obtain ⟨t, ht⟩ : ∃ t, t = tr (sg l m) := ⟨_, rfl⟩
          rw [← ht] at c0
          by_cases hte : t.size = 0
          · have q1 : t.toList = [] := nil_iff.2 hte
            have q1' : t.toList.isEmpty = true := by rw [q1]; rfl
            have ee : tr (sg l m) = ByteArray.empty := by rw [← ht]; exact ByteArray.ext (Array.eq_empty_of_size_eq_zero hte)
            have U := hide (used_back hml (by have := HUK.out; have := HM.out; omega) ee)
            have O := hide (show OS wr 9 w.heap.size (some ⟨g, 0, none⟩) cc ((l.map tr).take m) by
              have := hol.take (k := m) (by rw [LK.out]; omega) (by rw [LK.out]; exact h0)
              rwa [List.take_take, Nat.min_eq_left (by omega)] at this)
            clear hm ht hol hlc hte ee hk h0
            go_wp2
            go_roundw
            case rel => exact ⟨m, some ⟨g, 0, none⟩, by omega, U.out, rfl, fun _ => trivial, O.out, HB.out⟩
            case measure => show m < k; omega
          · have q1 : ¬ t.toList = [] := fun h => hte (nil_iff.1 h)
            have q1' : t.toList.isEmpty = false := by rw [Bool.eq_false_iff]; intro h; exact q1 (by simpa using h)
            have ee : tr (sg l m) ≠ ByteArray.empty := fun h => hte (by rw [ht, h]; rfl)
            have E := hide (show trR l = (l.map tr).take k by rw [RR.out, used_end hml (by have := HUK.out; have := HM.out; omega) ee, ← HM.out])
            have O := hide hol
            clear hm ht hol hlc hte ee
            go_wp2
            go_ret
            exact ⟨some ⟨g, 0, none⟩, cc, by rw [E.out, LK.out] <;> rfl, by rw [E.out]; exact O.out, HB.out⟩
end Go.Proofs.YtpgcpmfnidjhnaaDoor
