/- Drawn texts: words and patterns. -/
import Derived.Test.YtfcoheakecfolaaDrawI
import Derived.Test.YtfcoheakecfolaaStrs
import Derived.Deep.RegionWith
namespace Go.Proofs.Ytfcoheakecfolaa
open Go.ChangeShapes Go.WideShapes Go.ChangeAt Go.RowKit
set_option linter.unusedVariables false

/-- All values are texts of at most n bytes. -/
def strsLe (n : Nat) : List Value → Bool
  | [] => true
  | .string z :: t => decide (z.size ≤ n) && strsLe n t
  | _ :: _ => false
theorem strs_le {n : Nat} {l : List Value} (h : strsLe n l = true) : ∀ v ∈ l, ∃ z, v = .string z ∧ z.size ≤ n := by
  induction l with
  | nil => intro v hv; cases hv
  | cons a t ih =>
    cases a <;> simp only [strsLe, Bool.and_eq_true, decide_eq_true_eq, Bool.false_eq_true] at h
    intro v hv
    rcases List.mem_cons.1 hv with rfl | hv
    · exact ⟨_, rfl, h.1⟩
    · exact ih h.2 v hv
theorem randomWord_any (w : World) (B g N : Nat) (h : RD w B g N) (hN : N ≤ 1000000000) :
    Calls Try.prog 67 #[.pointer (some ⟨g, 0, none⟩)] w fun e w' => ∃ s : ByteArray, s.size ≤ 7 ∧ e = .returned (.string s) ∧ RD w' B g (N + 8) ∧ w.grownBy w' (some g) := by
  have hcv := conv_new
  have hos := one_size
  have hg := h.lt
  go_enter Try.func67, Try.ntmps67
  go_wp2_with fail
  (refine (pick_any _ B g _ _ h (by omega) (by omega) (by omega)).mono ?_)
  rintro e u0 ⟨r, hr0, hr1, rfl, hrd, hon⟩
  go_wp2
  go_loopw [3, 4] (fun v i u => ∃ (p m : Nat) (acc : ByteArray), p + m ≤ 7 ∧ i = .int .i64 m ∧ v = .string acc ∧ acc.size = p ∧ RD u B g (N + 1 + p) ∧ w.grownBy u (some g)) (fun _ i _ => (intOf i).toNat)
  case atStart => exact ⟨0, (1 + r).toNat, ⟨#[]⟩, by omega, by go_num, rfl, rfl, hrd, hon⟩
  case round =>
    obtain ⟨p, m, acc, hpm, rfl, rfl, hp, hrd, hon⟩ := hrel
    have HP := hide hp
    have hal : acc.size ≤ 7 := by omega
    clear hp
    rcases Nat.eq_zero_or_pos m with hm | hm
    · subst hm
      go_wp2
      go_ret
      exact ⟨acc, hal, rfl, hrd.more (by omega) (Nat.le_refl _) hrd.2.1, hon⟩
    · go_wp2_with fail
      (refine (pick_any _ B g _ _ hrd (by omega) (by omega) (by omega)).mono ?_)
      rintro e u1 ⟨z, hz0, hz1, rfl, hrd1, hon1⟩
      go_wp2
      go_roundw
      case rel => exact ⟨p + 1, m - 1, acc ++ one (97 + z), by omega, by go_num, rfl, by rw [ByteArray.size_append, one_size, HP.out], (hrd1.alloc _).more (by omega) (Nat.le_refl _) (hrd1.alloc _).2.1, on_alloc (on_call hon1 hon) _⟩
      case measure => simp [intOf]; omega

theorem anyWord_any (w : World) (B g N : Nat) (h : RD w B g N) (hN : N ≤ 100000000) :
    Calls Try.prog 58 #[.pointer (some ⟨g, 0, none⟩)] w fun e w' => ∃ s : ByteArray, s.size ≤ 27 ∧ e = .returned (.string s) ∧ RD w' B g (N + 9) ∧ w.grownBy w' (some g) := by
  have hg := h.lt
  go_enter Try.func58, Try.ntmps58
  go_wp2_with fail
  refine (randomWord_any _ B g _ h (by omega)).mono ?_
  rintro e u0 ⟨s, hs, rfl, hrd, hon⟩
  go_wp2_with fail
  (refine (pick_any _ B g _ _ hrd (by omega) (by omega) (by omega)).mono ?_)
  rintro e u1 ⟨r, hr0, hr1, rfl, hrd1, hon1⟩
  have O := hide (on_call hon1 hon)
  rcases (by omega : r = 0 ∨ r = 1 ∨ r = 2 ∨ 3 ≤ r) with rfl | rfl | rfl | hr
  · go_wp2
    go_ret
    exact ⟨⟨#[]⟩, by simp [ByteArray.size], rfl, hrd1, O.out⟩
  · go_wp2
    go_ret
    exact ⟨_, by rw [ByteArray.size_append]; have q : (ByteArray.mk #[65]).size = 1 := rfl; omega, rfl, hrd1, O.out⟩
  · go_wp2
    go_ret
    exact ⟨_, by rw [ByteArray.size_append]; have q : (ByteArray.mk #[97, 97, 97, 97, 97, 97, 97, 97, 97, 97, 97, 97, 97, 97, 97, 97, 97, 97, 97, 97]).size = 20 := rfl; omega, rfl, hrd1, O.out⟩
  · go_wp2
    go_ret
    exact ⟨s, by omega, rfl, hrd1, O.out⟩

theorem of_any (w : World) (B g N b n : Nat) {cs : Array Value} (P : ByteArray → Prop) {t : TypeId} (h : RD w B g N) (hN : N ≤ 1000000000000) (hb : w.heap[b]? = some (.cells cs t (0, 0))) (hne : b ≠ g) (hn : n = cs.size) (hL : 1 ≤ n ∧ n ≤ 65536)
    (hP : ∀ v ∈ cs.toList, ∃ z, v = .string z ∧ P z) :
    Calls Try.prog 65 #[.pointer (some ⟨g, 0, none⟩), .slice (some ⟨b, 0, none⟩) n n] w fun e w' => ∃ r : ByteArray, P r ∧ e = .returned (.string r) ∧ RD w' B g (N + 1) ∧ w.grownBy w' (some g) := by
  obtain ⟨hL0, hL1⟩ := hL
  have hlt : b < w.heap.size := by
    rcases Nat.lt_or_ge b w.heap.size with h | h
    · exact h
    · rw [Array.getElem?_eq_none h] at hb; cases hb
  go_enter Try.func65, Try.ntmps65
  go_wp2_with fail
  refine (pick_any _ B g _ _ h hN (by omega) (by omega)).mono ?_
  rintro e w' ⟨r, hr0, hr1, rfl, hrd, hon⟩
  obtain ⟨z, hz, hp⟩ := hP cs[r.toNat] (by simp)
  have hcell : w'.cell? ⟨b, r.toNat, none⟩ = some (.string z) := by
    rw [on_cell hon b r.toNat hlt hne, cell_of_row w b r.toNat cs t (0, 0) hb, ← hz]
    simp
  clear hz
  go_wp2
  go_ret
  exact ⟨z, hp, rfl, hrd, hon⟩

theorem formatInt_digit (n : Int) (w : World) (h0 : 0 ≤ n) (h1 : n ≤ 9) :
    Calls Try.prog 69 #[.int .i64 n] w fun e w' => e = .returned (.string (one (48 + n))) ∧ Below w.heap.size w w' := by
  have hcv := conv_new
  go_enter Try.func69, Try.ntmps69
  go_wp2
  go_ret
  exact ⟨rfl, bl_alloc (bl_refl _) _⟩

set_option maxHeartbeats 1000000 in
theorem mutate_any (w : World) (B g N : Nat) (s : ByteArray) (h : RD w B g N) (hN : N ≤ 100000000) (hs : s.size ≤ 1000) :
    Calls Try.prog 66 #[.pointer (some ⟨g, 0, none⟩), .string s] w fun e w' => ∃ t : ByteArray, t.size ≤ s.size + 3 ∧ e = .returned (.string t) ∧ RD w' B g (N + 3) ∧ w.grownBy w' (some g) := by
  have hg := h.lt
  go_enter Try.func66, Try.ntmps66
  go_wp2_with fail
  (refine (pick_any _ B g _ _ h (by omega) (by omega) (by omega)).mono ?_)
  rintro e u0 ⟨r, hr0, hr1, rfl, hrd, hon⟩
  obtain ⟨k, rfl⟩ := Int.eq_ofNat_of_zero_le hr0
  have hk : k ≤ s.size := by omega
  clear hr1 hr0
  go_wp2_with fail
  (refine (pick_any _ B g _ _ hrd (by omega) (by omega) (by omega)).mono ?_)
  rintro e u1 ⟨r, hr0, hr1, rfl, hrd1, hon1⟩
  have O := hide (on_call hon1 hon)
  have hg1 := hrd1.lt
  have X0 : (s.extract 0 k).size = k := by simp; omega
  have X1 : (s.extract (k + 1) s.size).size = s.size - (k + 1) := by simp
  have HX0 := hide X0
  have HX1 := hide X1
  have y0 : (s.extract 0 k).size ≤ 1000 := by omega
  have y1 : (s.extract (k + 1) s.size).size ≤ 1000 := by omega
  clear X0 X1
  rcases (by omega : r = 0 ∨ r = 1 ∨ r = 2 ∨ 3 ≤ r) with rfl | rfl | rfl | hr
  · rcases (by omega : k = s.size ∨ k < s.size) with hk' | hk'
    · have e1 : ¬ (k : Int) < (s.size : Int) := by omega
      clear hk'
      go_wp2
      go_ret
      exact ⟨s, by omega, rfl, hrd1.more (by omega) (Nat.le_refl _) hrd1.2.1, O.out⟩
    · have x1 : k + 1 ≤ s.size := by omega
      have wk : IntKind.i64.wrap ((k : Int) + 1) = (k : Int) + 1 := IntWalk.i64_in _ (by omega)
      go_wp2_with fail
      go_region_with (go_at_call 65; refine (of_any _ B g _ _ _ (fun z => z.size ≤ 3) (RD.alloc (RD.drewN hrd1 _) _) (by omega) (by exact heap_alloc_new _ _) (by simp; omega) (by rfl) (by decide) (strs_le (by rfl))).mono ?_; rintro e w' ⟨z, hz, rfl, hrd2, hon2⟩)
      all_goals
        go_wp2
        go_ret
        exact ⟨_, by rw [ByteArray.size_append, ByteArray.size_append, HX0.out, HX1.out]; omega, rfl, hrd2.more (by omega) (Nat.le_refl _) hrd2.2.1, on_call hon2 (on_alloc (on_drewN O.out _) _)⟩
  · go_wp2
    go_ret
    exact ⟨_, by rw [HX0.out]; omega, rfl, hrd1.more (by omega) (Nat.le_refl _) hrd1.2.1, O.out⟩
  · go_wp2_with fail
    refine (of_any _ B g _ _ _ (fun z => z.size ≤ 3) (RD.alloc hrd1 _) (by omega) (by exact heap_alloc_new _ _) (by omega) (by rfl) (by decide) (strs_le (by rfl))).mono ?_
    rintro e u2 ⟨z, hz, rfl, hrd2, hon2⟩
    go_wp2
    go_ret
    exact ⟨_, by rw [ByteArray.size_append]; omega, rfl, hrd2, on_call hon2 (on_alloc O.out _)⟩
  · go_wp2
    go_ret
    exact ⟨s, by omega, rfl, hrd1.more (by omega) (Nat.le_refl _) hrd1.2.1, O.out⟩

theorem randomPattern_any (w : World) (B g N : Nat) (h : RD w B g N) (hN : N ≤ 1000000000) :
    Calls Try.prog 64 #[.pointer (some ⟨g, 0, none⟩)] w fun e w' => ∃ s : ByteArray, s.size ≤ 8 ∧ e = .returned (.string s) ∧ RD w' B g (N + 13) ∧ w.grownBy w' (some g) := by
  have hcv := conv_new
  have hos := one_size
  have hg := h.lt
  go_enter Try.func64, Try.ntmps64
  go_wp2_with fail
  (refine (pick_any _ B g _ _ h (by omega) (by omega) (by omega)).mono ?_)
  rintro e u0 ⟨q, hq0, hq1, rfl, hrd, hon⟩
  have ST : ∃ a : ByteArray, a.size ≤ 1 ∧ ((q = 0 ∧ a = ⟨#[46]⟩) ∨ (1 ≤ q ∧ a = ⟨#[]⟩)) := by
    rcases (by omega : q = 0 ∨ 1 ≤ q) with e | e
    · exact ⟨_, by simp [ByteArray.size], .inl ⟨e, rfl⟩⟩
    · exact ⟨_, by simp [ByteArray.size], .inr ⟨e, rfl⟩⟩
  obtain ⟨a, ha, ST⟩ := ST
  rcases ST with ⟨rfl, rfl⟩ | ⟨hq, rfl⟩
  all_goals
    go_wp2_with fail
    (refine (pick_any _ B g _ _ hrd (by omega) (by omega) (by omega)).mono ?_)
    rintro e u1 ⟨r, hr0, hr1, rfl, hrd0, hon0⟩
    have O := hide (on_call hon0 hon)
    have HA := hide ha
    clear ha
    go_wp2
    go_loopw [3, 4] (fun v i u => ∃ (p m : Nat) (acc : ByteArray), p + m ≤ 3 ∧ i = .int .i64 m ∧ v = .string acc ∧ acc.size ≤ 1 + 2 * p ∧ RD u B g (N + 2 + 3 * p) ∧ w.grownBy u (some g)) (fun _ i _ => (intOf i).toNat)
    case atStart => exact ⟨0, (1 + r).toNat, _, by omega, by go_num, rfl, HA.out, hrd0, O.out⟩
    case round =>
      obtain ⟨p, m, acc, hpm, rfl, rfl, hp, hrd, hon⟩ := hrel
      have hal : acc.size ≤ 7 := by omega
      rcases Nat.eq_zero_or_pos m with hm | hm
      · subst hm
        go_wp2_with fail
        (refine (pick_any _ B g _ _ hrd (by omega) (by omega) (by omega)).mono ?_)
        rintro e u2 ⟨z, hz0, hz1, rfl, hrd1, hon1⟩
        have O2 := hide (on_call hon1 hon)
        rcases (by omega : z = 0 ∨ 1 ≤ z) with rfl | hz
        · go_wp2_with fail
          (refine (pick_any _ B g _ _ hrd1 (by omega) (by omega) (by omega)).mono ?_)
          rintro e u3 ⟨y, hy0, hy1, rfl, hrd2, hon2⟩
          go_wp2_with fail
          refine (formatInt_digit _ _ (by omega) (by omega)).mono ?_
          rintro e u4 ⟨rfl, hb⟩
          go_wp2
          go_ret
          exact ⟨_, by rw [ByteArray.size_append, one_size]; omega, rfl, (hrd2.below hb).more (by omega) (Nat.le_refl _) (hrd2.below hb).2.1, on_below hb (on_call hon2 O2.out)⟩
        · go_wp2_with fail
          (refine (pick_any _ B g _ _ hrd1 (by omega) (by omega) (by omega)).mono ?_)
          rintro e u3 ⟨y, hy0, hy1, rfl, hrd2, hon2⟩
          rcases (by omega : y = 0 ∨ 1 ≤ y) with rfl | hy
          · go_wp2
            go_ret
            exact ⟨_, by rw [ByteArray.size_append]; have q : (ByteArray.mk #[46]).size = 1 := rfl; omega, rfl, hrd2.more (by omega) (Nat.le_refl _) hrd2.2.1, on_call hon2 O2.out⟩
          · go_wp2
            go_ret
            exact ⟨acc, by omega, rfl, hrd2.more (by omega) (Nat.le_refl _) hrd2.2.1, on_call hon2 O2.out⟩
      · go_wp2_with fail
        (refine (pick_any _ B g _ _ hrd (by omega) (by omega) (by omega)).mono ?_)
        rintro e u2 ⟨z, hz0, hz1, rfl, hrd1, hon1⟩
        have O2 := hide (on_call hon1 hon)
        rcases (by omega : z = 0 ∨ 1 ≤ z) with rfl | hz
        · go_wp2_with fail
          (refine (pick_any _ B g _ _ hrd1 (by omega) (by omega) (by omega)).mono ?_)
          rintro e u3 ⟨y, hy0, hy1, rfl, hrd2, hon2⟩
          go_wp2_with fail
          refine (formatInt_digit _ _ (by omega) (by omega)).mono ?_
          rintro e u4 ⟨rfl, hb⟩
          have hrd3 := hrd2.below hb
          have O3 := hide (on_below hb (on_call hon2 O2.out))
          have SZ : (acc ++ one (48 + (1 + y))).size ≤ 8 := by rw [ByteArray.size_append, one_size]; omega
          go_wp2_with fail
          (refine (pick_any _ B g _ _ hrd3 (by omega) (by omega) (by omega)).mono ?_)
          rintro e u5 ⟨x, hx0, hx1, rfl, hrd4, hon4⟩
          go_wp2
          go_roundw
          case rel => exact ⟨p + 1, m - 1, _, by omega, by go_num, rfl, by rw [ByteArray.size_append, ByteArray.size_append, one_size, one_size]; omega, (hrd4.alloc _).more (by omega) (Nat.le_refl _) (hrd4.alloc _).2.1, on_alloc (on_call hon4 O3.out) _⟩
          case measure => simp [intOf]; omega
        · go_wp2_with fail
          (refine (pick_any _ B g _ _ hrd1 (by omega) (by omega) (by omega)).mono ?_)
          rintro e u5 ⟨x, hx0, hx1, rfl, hrd4, hon4⟩
          go_wp2
          go_roundw
          case rel => exact ⟨p + 1, m - 1, _, by omega, by go_num, rfl, by rw [ByteArray.size_append, one_size]; omega, (hrd4.alloc _).more (by omega) (Nat.le_refl _) (hrd4.alloc _).2.1, on_alloc (on_call hon4 O2.out) _⟩
          case measure => simp [intOf]; omega

theorem anyPattern_any (w : World) (B g N : Nat) (h : RD w B g N) (hN : N ≤ 10000000) :
    Calls Try.prog 55 #[.pointer (some ⟨g, 0, none⟩)] w fun e w' => ∃ s : ByteArray, s.size ≤ 11 ∧ e = .returned (.string s) ∧ RD w' B g (N + 17) ∧ w.grownBy w' (some g) := by
  have hg := h.lt
  go_enter Try.func55, Try.ntmps55
  go_wp2_with fail
  refine (randomPattern_any _ B g _ h (by omega)).mono ?_
  rintro e u0 ⟨s, hs, rfl, hrd, hon⟩
  go_wp2_with fail
  (refine (pick_any _ B g _ _ hrd (by omega) (by omega) (by omega)).mono ?_)
  rintro e u1 ⟨r, hr0, hr1, rfl, hrd1, hon1⟩
  have O := hide (on_call hon1 hon)
  have hg1 := hrd1.lt
  rcases (by omega : r = 0 ∨ r = 1 ∨ 2 ≤ r) with rfl | rfl | hr
  · go_wp2_with fail
    refine (of_any _ B g _ _ _ (fun z => z.size ≤ 3) (RD.alloc hrd1 _) (by omega) (by exact heap_alloc_new _ _) (by omega) (by rfl) (by decide) (strs_le (by rfl))).mono ?_
    rintro e u2 ⟨z, hz, rfl, hrd2, hon2⟩
    go_wp2
    go_ret
    exact ⟨_, by omega, rfl, hrd2.more (by omega) (Nat.le_refl _) hrd2.2.1, on_call hon2 (on_alloc O.out _)⟩
  · go_wp2_with fail
    refine (mutate_any _ B g _ s hrd1 (by omega) (by omega)).mono ?_
    rintro e u2 ⟨z, hz, rfl, hrd2, hon2⟩
    go_wp2
    go_ret
    exact ⟨_, by omega, rfl, hrd2.more (by omega) (Nat.le_refl _) hrd2.2.1, on_call hon2 O.out⟩
  · go_wp2
    go_ret
    exact ⟨s, by omega, rfl, hrd1.more (by omega) (Nat.le_refl _) hrd1.2.1, O.out⟩

theorem DrawParsePattern_any (w : World) (a : Option Addr) (n c : Nat) (zs : List Int) (h : IsRow .u8 w a n c zs) :
    Calls Try.prog 31 #[.slice a n c] w fun e w' => ∃ s : ByteArray, s.size ≤ 11 ∧ e = .returned (.string s) ∧ Below w.heap.size w w' := by
  go_enter Try.func31, Try.ntmps31
  go_wp2_with fail
  refine (newReader_any _ _ _ _ _ h).mono ?_
  rintro e u0 ⟨rfl, hrd, hb⟩
  go_wp2_with fail
  refine (anyPattern_any _ _ _ _ hrd (by omega)).mono ?_
  rintro e u1 ⟨s, hs, rfl, hrd1, hon1⟩
  have hb4 : Below w.heap.size w u1 := on_new (on_call hon1 (on_below hb (on_refl _ _))) (Nat.le_refl _)
  go_wp2
  go_ret
  exact ⟨s, hs, rfl, hb4⟩

theorem DrawSplitWord_any (w : World) (a : Option Addr) (n c : Nat) (zs : List Int) (h : IsRow .u8 w a n c zs) :
    Calls Try.prog 34 #[.slice a n c] w fun e w' => ∃ (s : ByteArray) (A : Option Addr) (c : Nat) (l : List Int), e = .returned (.tuple #[.string s, .slice A l.length c]) ∧ s.size ≤ 27 ∧ OL w' 3 w.heap.size A c l ∧ l.length ≤ 28 ∧ Below w.heap.size w w' := by
  obtain ⟨i0, hi0, jz0, jz1, jz2⟩ := info_parts int_info
  go_enter Try.func34, Try.ntmps34
  go_wp2_with fail
  refine (newReader_any _ _ _ _ _ h).mono ?_
  rintro e u0 ⟨rfl, hrd, hb⟩
  go_wp2_with fail
  refine (anyWord_any _ _ _ _ hrd (by omega)).mono ?_
  rintro e u1 ⟨s, hs, rfl, hrd1, hon1⟩
  have hgl : w.heap.size < u0.heap.size := hrd.lt
  have H0 : Hid (OL (u1.alloc (.cells #[] 3)) 3 u0.heap.size (some ⟨u1.heap.size, 0, none⟩) 0 []) := hide (by
      have := OL.lit (w := u1) (e := 3) (B := u0.heap.size) hon1.size [] (by simp)
      simpa using this)
  have R1 := hrd1.alloc (.cells #[] 3)
  have O1 := hide (on_alloc hon1 (.cells #[] 3))
  have HB := hide hb
  clear hb hon1 hrd h hrd1
  go_wp2
  go_loopw [6, 7] (fun v i u => ∃ (k : Nat) (A : Option Addr) (n cc : Nat) (l : List Int), k ≤ s.size + 1 ∧ 1 ≤ k ∧ i = .int .i64 k ∧ v = .slice A n cc ∧ n = l.length ∧ l.length < k ∧ OL u 3 u0.heap.size A cc l ∧ RD u (w.heap.size + 1) w.heap.size (9 + k) ∧ u0.grownBy u (some w.heap.size)) (fun _ i _ => s.size + 1 - (intOf i).toNat)
  case atStart => exact ⟨1, _, _, _, [], by omega, by omega, rfl, rfl, rfl, by simp, H0.out, R1.more (by omega) (Nat.le_refl _) R1.2.1, O1.out⟩
  case round =>
    obtain ⟨k, A, n, cc, l, hk, hk1, rfl, rfl, hn, hl, hol, hrd, hon⟩ := hrel
    have HN := hide hn
    have hn2 : n ≤ 28 := by omega
    clear hn
    have hzr := hon.size
    by_cases hlt : k < s.size
    · go_wp2_with fail
      refine (pick_any _ _ _ _ _ hrd (by omega) (by omega) (by omega)).mono ?_
      rintro e u2 ⟨r, hr0, hr1, rfl, hrd1, hon1⟩
      have O2 := hide (on_call hon1 hon)
      have hol1 := hol.read hon1 hgl
      have hz1 := hon1.size
      clear hol hon1 hon
      rcases (by omega : r = 0 ∨ 0 < r) with rfl | hr
      · go_wp2_with (at_builtin; refine wpList_append_int rfl (.tmp 22) (.tmp 24) _ rfl 3 i0 Try.underlying30 hi0 jz0 jz1 jz2 (u0.heap.size) A cc n l rfl (HN.out) (hol1.alloc _) u2.heap.size k rfl (by simp) (by omega) (by simp; omega) ?_; intro A' c' w' hol' hb' hg')
        go_roundw
        case rel =>
          refine ⟨k + 1, A', n + 1, c', l ++ [(k : Int)], by omega, by omega, by go_num, rfl, by simp [HN.out], by simp; omega, hol', ?_, on_below' hb' (Nat.le_refl _) (on_alloc O2.out _)⟩
          exact ((hrd1.alloc _).below' hb' (by omega)).more (by omega) (Nat.le_refl _) ((hrd1.alloc _).below' hb' (by omega)).2.1
        case measure => simp [intOf]; omega
      · go_wp2
        go_roundw
        case rel => exact ⟨k + 1, A, n, cc, l, by omega, by omega, by go_num, rfl, HN.out, by omega, hol1, hrd1.more (by omega) (Nat.le_refl _) hrd1.2.1, O2.out⟩
        case measure => simp [intOf]; omega
    · go_wp2_with fail
      refine (pick_any _ _ _ _ _ hrd (by omega) (by omega) (by omega)).mono ?_
      rintro e u2 ⟨r, hr0, hr1, rfl, hrd1, hon1⟩
      have O2 := hide (on_call hon1 hon)
      have hol1 := hol.read hon1 hgl
      have hz1 := hon1.size
      clear hol hon1 hon
      rcases (by omega : r = 0 ∨ 0 < r) with rfl | hr
      · go_wp2_with fail
        refine (one_any _ _ _ _ _ _ (fun _ => True) (hrd1.alloc _) (by omega) (by exact heap_alloc_new _ _) (by omega) (by rfl) (by decide) (by simp)).mono ?_
        rintro e u3 ⟨z, hz, rfl, hrd2, hon2⟩
        have hol2 := (hol1.alloc _).read hon2 hgl
        have O3 := hide (on_call hon2 (on_alloc O2.out _))
        have hz2 := hon2.size
        simp at hz2
        clear hz hon2 hol1
        go_wp2_with (at_builtin; refine wpList_append_int rfl (.tmp 29) (.tmp 35) _ rfl 3 i0 Try.underlying30 hi0 jz0 jz1 jz2 (u0.heap.size) A cc n l rfl (HN.out) (hol2.alloc _) u3.heap.size z rfl (by simp) (by omega) (by simp; omega) ?_; intro A' c' w' hol' hb' hg')
        go_ret2
        refine ⟨s, A', c', l ++ [z], by rw [List.length_append, ← HN.out]; rfl, hs, hol'.more HB.out.size, by simp; omega, ?_⟩
        exact on_new (on_call (on_below' hb' (Nat.le_refl _) (on_alloc O3.out _)) (on_below HB.out (on_refl _ _))) (Nat.le_refl _)
      · go_wp2
        go_ret2
        refine ⟨s, A, cc, l, by rw [HN.out]; rfl, hs, hol1.more HB.out.size, by omega, ?_⟩
        exact on_new (on_call O2.out (on_below HB.out (on_refl _ _))) (Nat.le_refl _)
end Go.Proofs.Ytfcoheakecfolaa
