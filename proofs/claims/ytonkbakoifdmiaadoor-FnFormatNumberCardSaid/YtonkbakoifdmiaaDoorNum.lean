/- Numbers in letters: what the alphabetic functions answer, in the program and in its model. -/
import Derived.Test.YtonkbakoifdmiaaDoorNumM
import Derived.Test.YtonkbakoifdmiaaDoorPat
import Derived.Deep.RegionWith
namespace Go.Proofs.YtonkbakoifdmiaaDoor
open Go.ChangeShapes Go.WideShapes Go.ChangeAt Go.RowKit
set_option linter.unusedVariables false

/-- A list of bytes as a text. -/
def bs (l : List UInt8) : ByteArray := ⟨l.toArray⟩
theorem bs_data (l : List UInt8) : (bs l).data.toList = l := rfl
theorem bs_size (l : List UInt8) : (bs l).size = l.length := by simp [bs, ByteArray.size]
theorem bs_eq {s : ByteArray} {l : List UInt8} (h : s.data.toList = l) : s = bs l := by
  apply ByteArray.ext
  rw [← Array.toList_inj, h]; rfl
theorem bs_inj {l m : List UInt8} (h : bs l = bs m) : l = m := by
  have := congrArg (fun s : ByteArray => s.data.toList) h
  exact this
theorem empty_no {t : ByteArray} (h : 0 < t.size) : t.toList.isEmpty = false := by
  rw [Lib.toList_data]
  cases hl : t.data.toList with
  | nil => have h2 := Lib.size_eq t; rw [hl] at h2; rw [h2] at h; cases h
  | cons a l => rfl
theorem empty_yes {t : ByteArray} (h : t.size = 0) : t.toList.isEmpty = true := by
  rw [Lib.toList_data]
  cases hl : t.data.toList with
  | nil => rfl
  | cons a l => have h2 := Lib.size_eq t; rw [hl, h] at h2; cases h2
theorem one_list (z : Int) : (one z).data.toList = [UInt8.ofNat z.toNat] := rfl
theorem bool_if (n : Int) : decide (1 ≤ n ∧ n ≤ 3999) = inB n 1 3999 := rfl
theorem alpN_no {n : Int} (h : inB n 1 3999 = false) : alpN n = [] := by
  unfold alpN; rw [if_neg]; intro k; rw [← inB_iff, h] at k; cases k
theorem alpN_yes {m : Nat} (h : 1 ≤ m ∧ m ≤ 3999) : alpN (m : Int) = alp m := by
  unfold alpN; rw [if_pos (by omega), Int.toNat_natCast]
theorem alp_rev {m : Nat} (h : 0 < m) : alp ((m - 1) / 26) ++ [UInt8.ofNat (97 + (m - 1) % 26)] = alp m := (alp_step h).symm

theorem alphabetic_s (m0 : Nat) (w : World) (h : m0 ≤ 3999) :
    Calls Tryd.prog 26 #[.int .i64 m0] w fun e w' => e = .returned (.string (bs (alp m0))) ∧ Below w.heap.size w w' := by
  have hcv := conv_new
  have hos := one_size
  have h3 := alp_len h
  go_enter Tryd.func26, Tryd.ntmps26
  go_wp2
  go_loopw [0, 3] (fun x v u => ∃ (m : Nat) (acc : ByteArray), m ≤ 3999 ∧ x = .int .i64 m ∧ v = .string acc ∧ alp m ++ acc.data.toList = alp m0 ∧ acc.size ≤ 3 ∧ Below w.heap.size w u) (fun x _ _ => (intOf x).toNat)
  case atStart => exact ⟨m0, ⟨#[]⟩, h, rfl, rfl, by simp, by simp [ByteArray.size], bl_refl _⟩
  case round =>
    obtain ⟨m, acc, hm, rfl, rfl, hac, hal, hb⟩ := hrel
    have HA := hide hac
    clear hac
    rcases Nat.eq_zero_or_pos m with hz | hz
    · subst hz
      have E := hide (bs_eq (l := alp m0) (by simpa [alp_zero] using HA.out))
      go_wp2
      go_ret
      exact ⟨str_ret E.out, hb⟩
    · obtain ⟨k, rfl⟩ : ∃ k, m = k + 1 := ⟨m - 1, by omega⟩
      have M : Hid (alp (k / 26) ++ (one (97 + ((k : Int)) % 26) ++ acc).data.toList = alp m0) := hide (by
        rw [← HA.out, one_cat, ← alp_rev (m := k + 1) (by omega), Nat.add_sub_cancel, List.append_assoc, show (97 + (k : Int) % 26).toNat = 97 + k % 26 from by omega]; rfl)
      have S : Hid ((one (97 + ((k : Int)) % 26) ++ acc).size ≤ 3) := hide (by
        have := congrArg List.length M.out
        rw [List.length_append, data_len] at this
        omega)
      have e0 : ((k + 1 : Nat) : Int) - 1 = (k : Int) := by omega
      go_wp2
      go_roundw
      case rel => exact ⟨k / 26, _, by omega, by go_num, rfl, M.out, S.out, bl_alloc hb _⟩
      case measure => simp [intOf]; omega


theorem g_drew {a w : World} {row : Option Nat} (h : a.grownBy w row) : a.grownBy w.drew row := ⟨h.os, h.tape, h.output, h.size, h.block⟩
theorem Reverse_bytes (w : World) (B : Nat) (A : Option Addr) (c : Nat) (T : List UInt8) (h : OB w 5 B A c T) (hl : T.length ≤ 3) :
    Calls Tryd.prog 33 #[.slice A T.length c] w fun e w' => e = .returned (.tuple #[]) ∧ OB w' 5 B A c T.reverse ∧ w.grownBy w' (Value.slice A T.length c).ownBlock := by
  match T, h, hl with
  | [], h, _ =>
    go_enter Tryd.func33, Tryd.ntmps33
    go_wp2
    go_loopw [2, 3] (fun i j u => i = .int .i64 0 ∧ j = .int .i64 (-1) ∧ u = w) (fun _ _ _ => 0)
    case atStart => exact ⟨rfl, rfl, rfl⟩
    case round =>
      obtain ⟨rfl, rfl, rfl⟩ := hrel
      go_wp2
      go_end0
      exact ⟨rfl, h, World.grownBy.refl _ _⟩
  | [x], h, _ =>
    go_enter Tryd.func33, Tryd.ntmps33
    go_wp2
    go_loopw [2, 3] (fun i j u => i = .int .i64 0 ∧ j = .int .i64 0 ∧ u = w) (fun _ _ _ => 0)
    case atStart => exact ⟨rfl, rfl, rfl⟩
    case round =>
      obtain ⟨rfl, rfl, rfl⟩ := hrel
      go_wp2
      go_end0
      exact ⟨rfl, h, World.grownBy.refl _ _⟩
  | [x, y], h, _ =>
    obtain ⟨g, rfl, hB, hg, hfz⟩ := h.frozen (by simp)
    have f0 := hfz 0
    have f1 := hfz 1
    obtain ⟨b, o, he, _, c0⟩ := h.reads.at_ (i := 0) (by simp)
    injection he with he
    cases he
    obtain ⟨b, o, he, _, c1⟩ := h.reads.at_ (i := 1) (by simp)
    injection he with he
    cases he
    have c0 : w.cell? ⟨g, 0, none⟩ = some (.int .u8 x.toNat) := c0
    have c1 : w.cell? ⟨g, 1, none⟩ = some (.int .u8 y.toNat) := c1
    have S1 := hide (h.set_ 0 y)
    have S2 := hide (S1.out.1.set_ 1 x)
    have S3 := hide (h.set_ 1 x)
    have S4 := hide (S3.out.1.set_ 0 y)
    clear hfz h
    go_enter Tryd.func33, Tryd.ntmps33
    go_wp2
    go_loopw [2, 3] (fun i j u => (i = .int .i64 0 ∧ j = .int .i64 1 ∧ u = w) ∨ (i = .int .i64 1 ∧ j = .int .i64 0 ∧ OB u 5 B (some ⟨g, 0, none⟩) c [y, x] ∧ w.grownBy u (some g))) (fun i _ _ => 1 - (intOf i).toNat)
    case atStart => exact .inl ⟨rfl, rfl, rfl⟩
    case round =>
      rcases hrel with ⟨rfl, rfl, rfl⟩ | ⟨rfl, rfl, ho, hgr⟩
      · go_wp2
        go_region
        all_goals
          go_wp2
          go_roundw
          case rel => exact .inr ⟨rfl, rfl, by first | exact S2.out.1 | exact S4.out.1, by first | exact g_drew (on_set' (p := ⟨g, 1, none⟩) S1.out.2 (.inl rfl) _) | exact g_drew (on_set' (p := ⟨g, 0, none⟩) S3.out.2 (.inl rfl) _) | exact on_set' (p := ⟨g, 1, none⟩) S1.out.2 (.inl rfl) _ | exact on_set' (p := ⟨g, 0, none⟩) S3.out.2 (.inl rfl) _⟩
          case measure => simp [intOf]
      · go_wp2
        go_end0
        exact ⟨rfl, ho, hgr⟩
  | [x, y, z], h, _ =>
    obtain ⟨g, rfl, hB, hg, hfz⟩ := h.frozen (by simp)
    have f0 := hfz 0
    have f1 := hfz 2
    obtain ⟨b, o, he, _, c0⟩ := h.reads.at_ (i := 0) (by simp)
    injection he with he
    cases he
    obtain ⟨b, o, he, _, c1⟩ := h.reads.at_ (i := 2) (by simp)
    injection he with he
    cases he
    have c0 : w.cell? ⟨g, 0, none⟩ = some (.int .u8 x.toNat) := c0
    have c1 : w.cell? ⟨g, 2, none⟩ = some (.int .u8 z.toNat) := c1
    have S1 := hide (h.set_ 0 z)
    have S2 := hide (S1.out.1.set_ 2 x)
    have S3 := hide (h.set_ 2 x)
    have S4 := hide (S3.out.1.set_ 0 z)
    clear hfz h
    go_enter Tryd.func33, Tryd.ntmps33
    go_wp2
    go_loopw [2, 3] (fun i j u => (i = .int .i64 0 ∧ j = .int .i64 2 ∧ u = w) ∨ (i = .int .i64 1 ∧ j = .int .i64 1 ∧ OB u 5 B (some ⟨g, 0, none⟩) c [z, y, x] ∧ w.grownBy u (some g))) (fun i _ _ => 1 - (intOf i).toNat)
    case atStart => exact .inl ⟨rfl, rfl, rfl⟩
    case round =>
      rcases hrel with ⟨rfl, rfl, rfl⟩ | ⟨rfl, rfl, ho, hgr⟩
      · go_wp2
        go_region
        all_goals
          go_wp2
          go_roundw
          case rel => exact .inr ⟨rfl, rfl, by first | exact S2.out.1 | exact S4.out.1, by first | exact g_drew (on_set' (p := ⟨g, 2, none⟩) S1.out.2 (.inl rfl) _) | exact g_drew (on_set' (p := ⟨g, 0, none⟩) S3.out.2 (.inl rfl) _) | exact on_set' (p := ⟨g, 2, none⟩) S1.out.2 (.inl rfl) _ | exact on_set' (p := ⟨g, 0, none⟩) S3.out.2 (.inl rfl) _⟩
          case measure => simp [intOf]
      · go_wp2
        go_end0
        exact ⟨rfl, ho, hgr⟩

theorem validNumeral_i (n : Int) (w : World) :
    Calls Tryd.prog 22 #[.int .i64 n] w fun e w' => e = .returned (.bool (inB n 1 3999)) ∧ w = w' := by
  go_enter Tryd.func22, Tryd.ntmps22
  go_wp2_with (go_at_call 35; refine (within_any _ _ _ _).mono ?_; rintro e w' ⟨rfl, rfl⟩)
  go_ret
  exact ⟨rfl, rfl⟩
theorem Alphabetic_i (n : Int) (w : World) :
    Calls Tryd.prog 19 #[.int .i64 n] w fun e w' => e = .returned (.string (bs (alpN n))) ∧ Below w.heap.size w w' := by
  cases q : inB n 1 3999
  · have E := hide (congrArg bs (alpN_no q))
    go_enter Tryd.func19, Tryd.ntmps19
    go_wp2_with (go_at_call 22; refine (validNumeral_i _ _).mono ?_; rintro e w' ⟨rfl, rfl⟩)
    go_ret
    exact ⟨str_ret E.out.symm, bl_refl _⟩
  · obtain ⟨q0, q1⟩ := inB_iff.1 q
    obtain ⟨m0, rfl⟩ := Int.eq_ofNat_of_zero_le (show 0 ≤ n by omega)
    have E := hide (congrArg bs (alpN_yes (m := m0) (by omega)))
    have h3 := alp_len (n := m0) (by omega)
    obtain ⟨ib, hib, kz0, kz1, kz2⟩ := info_parts u8_info
    go_enter Tryd.func19, Tryd.ntmps19
    go_wp2_with (go_at_call 22; refine (validNumeral_i _ _).mono ?_; rintro e w' ⟨rfl, rfl⟩)
    go_loopw [0, 3] (fun x v u => ∃ (m : Nat) (A : Option Addr) (c : Nat) (T : List UInt8), m ≤ 3999 ∧ x = .int .i64 m ∧ v = .slice A T.length c ∧ alp m ++ T.reverse = alp m0 ∧ T.length ≤ 3 ∧ (m < m0 ∨ 0 < m) ∧ (m < m0 → 0 < T.length) ∧ OB u 5 w.heap.size A c T ∧ Below w.heap.size w u) (fun x _ _ => (intOf x).toNat)
    case atStart => exact ⟨m0, none, 0, [], by omega, rfl, rfl, by simp, by simp, by omega, by omega, OB.nil _ _ _, bl_refl _⟩
    case round =>
      obtain ⟨m, A, c, T, hm, rfl, rfl, hac, hal, hmm, hT, hob, hb⟩ := hrel
      have HA := hide hac
      have hz1 : w.heap.size ≤ wr.heap.size := hb.size
      clear hac
      rcases Nat.eq_zero_or_pos m with hz | hz
      · subst hz
        have E2 := hide (show T.reverse = alp m0 by simpa [alp_zero] using HA.out)
        have hT0 : 0 < T.length := hT (by omega)
        go_wp2_with fail
        refine (Reverse_bytes _ _ _ _ _ hob hal).mono ?_
        rintro e u1 ⟨rfl, ho1, hg1⟩
        rw [E2.out] at ho1
        have ha0 : 0 < (alp m0).length := by rw [← E2.out]; simpa using hT0
        have hcv := conv_bytes ho1 ha0
        have hlen : (alp m0).length = T.length := by rw [← E2.out]; simp
        rw [hlen] at hcv
        have HB := hide (hb.grown hg1 hb.size (fun k hk => (hob.own_lt k hk).1))
        go_wp2
        go_ret
        exact ⟨str_ret E.out.symm, HB.out⟩
      · obtain ⟨k, rfl⟩ : ∃ k, m = k + 1 := ⟨m - 1, by omega⟩
        have M : Hid (alp (k / 26) ++ (T ++ [UInt8.ofNat (97 + k % 26)]).reverse = alp m0) := hide (by
          rw [← HA.out, ← alp_rev (m := k + 1) (by omega), Nat.add_sub_cancel]; simp)
        have S : Hid ((T ++ [UInt8.ofNat (97 + k % 26)]).length ≤ 3) := hide (by
          have := congrArg List.length M.out
          rw [List.length_append, List.length_reverse] at this
          omega)
        have e0 : ((k + 1 : Nat) : Int) - 1 = (k : Int) := by omega
        obtain ⟨x, hx⟩ : ∃ x : UInt8, x = UInt8.ofNat (97 + k % 26) := ⟨_, rfl⟩
        have hxn : 97 + (k : Int) % 26 = (x.toNat : Int) := by
          have : (97 + k % 26) % 256 = 97 + k % 26 := Nat.mod_eq_of_lt (by omega)
          rw [hx, UInt8.toNat_ofNat', this]; omega
        rw [← hx] at M S
        have hx0 : x.toNat < 256 := UInt8.toNat_lt x
        clear hx
        go_wp2_with (at_builtin; refine wpList_append_byte rfl (.tmp 11) (.tmp 16) _ rfl 5 ib Tryd.underlying29 hib kz0 kz1 kz2 w.heap.size A c T.length T rfl (rfl) (hob.alloc _) wr.heap.size x rfl (by simp) (by omega) (by simp; omega) ?_; intro A' c' w' hol' hb' hg')
        go_roundw
        case rel => exact ⟨k / 26, A', c', _, by omega, by go_num, by simp, M.out, S.out, by omega, by simp, hol', (bl_alloc hb _).trans hb'⟩
        case measure => simp [intOf]; omega

/-- What is returned of a pair. -/
abbrev rvp (r : Int × Bool) : Value := .tuple #[.int .i64 r.1, .bool r.2]
theorem Let.nil : Let [] := fun c h => by cases h
theorem Let.snoc {l : List UInt8} {c : UInt8} (h : Let l) (hc : 97 ≤ c.toNat ∧ c.toNat ≤ 122) : Let (l ++ [c]) := fun x hx => by
  rcases List.mem_append.1 hx with hx | hx
  · exact h x hx
  · simp at hx; subst hx; exact hc
theorem take_byte {s : ByteArray} {k : Nat} (h : k < s.size) : s.data.toList.take (k + 1) = s.data.toList.take k ++ [s[k]] := by
  rw [List.take_add_one, List.getElem?_eq_getElem (by simpa using h)]; rfl
theorem byte_in {s : ByteArray} {k : Nat} (h : k < s.size) : s[k] ∈ s.data.toList := by
  rw [show s[k] = s.data.toList[k]'(by simpa using h) from rfl]; exact List.getElem_mem _
theorem fav3 (l : List UInt8) (h : l.length ≤ 3) : -100000 ≤ fav l ∧ fav l ≤ 200000 := by
  have b : ∀ c : UInt8, c.toNat < 256 := fun c => UInt8.toNat_lt c
  match l, h with
  | [], _ => exact ⟨by decide, by decide⟩
  | [x], _ =>
    have := b x
    have : fav [x] = 26 * 0 + x.toNat - 97 + 1 := rfl
    omega
  | [x, y], _ =>
    have := b x; have := b y
    have : fav [x, y] = 26 * (26 * 0 + x.toNat - 97 + 1) + y.toNat - 97 + 1 := rfl
    omega
  | [x, y, z], _ =>
    have := b x; have := b y; have := b z
    have : fav [x, y, z] = 26 * (26 * (26 * 0 + x.toNat - 97 + 1) + y.toNat - 97 + 1) + z.toNat - 97 + 1 := rfl
    omega


end Go.Proofs.YtonkbakoifdmiaaDoor
