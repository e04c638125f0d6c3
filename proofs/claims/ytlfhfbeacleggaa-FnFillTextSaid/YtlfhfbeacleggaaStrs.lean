/- What the laws' helpers on slices of strings answer. -/
import Derived.Test.YtlfhfbeacleggaaInts
import Derived.Test.YtlfhfbeacleggaaSLists
import Derived.Deep.RegionWith
import Derived.Lib.Strings
namespace Go.Proofs.Ytlfhfbeacleggaa
open Go.ChangeShapes Go.WideShapes Go.ChangeAt Go.RowKit
set_option linter.unusedVariables false

theorem str_info : (Try.prog.info? 9).map (fun i => (i.zero, i.size, i.bytes)) = some (some (.string ByteArray.empty), 1, 16) := by kernel_rfl

theorem teq_no {x y : ByteArray} (h : x ≠ y) : (x.toList == y.toList) = false := by
  rw [beq_eq_false_iff_ne]
  intro e
  rw [Lib.toList_data, Lib.toList_data] at e
  exact h (ByteArray.ext (Array.toList_inj.1 e))
theorem teq_yes (x : ByteArray) : (x.toList == x.toList) = true := by simp

theorem eqStringS_l (w : World) (A B : Option Addr) (n m c d : Nat) (l k : List ByteArray) (ha : SL w A n l) (hb : SL w B m k) (hn : n ≤ 4611686018427387904) (hm : m ≤ 4611686018427387904) :
    Calls Try.prog 24 #[.slice A n c, .slice B m d] w fun e w' => e = .returned (.bool (decide (l = k))) ∧ ∃ j, w.drewN j = w' := by
  by_cases hnm : n = m
  · subst hnm
    have hl : l.length = k.length := by rw [← ha.1, ← hb.1]
    have HL := hide hl
    clear hl
    go_enter Try.func24, Try.ntmps24
    go_wp2
    go_loopw [5] (fun i u => ∃ p j : Nat, p ≤ n ∧ i = .int .i64 p ∧ SAgr l k p ∧ u = w.drewN j) (fun i _ => n - (intOf i).toNat)
    case atStart => exact ⟨0, 0, by omega, rfl, SAgr.zero _ _, rfl⟩
    case round =>
      obtain ⟨p, j, hp, rfl, hag, rfl⟩ := hrel
      have Hag := hide hag
      clear hag
      by_cases hlt : p < n
      · obtain ⟨b, o, rfl, hbl, hc⟩ := ha.at_ hlt
        obtain ⟨b', o', rfl, hbl', hc'⟩ := hb.at_ hlt
        obtain ⟨x, hx⟩ : ∃ x, x = sg l p := ⟨_, rfl⟩
        obtain ⟨y, hy⟩ : ∃ y, y = sg k p := ⟨_, rfl⟩
        rw [← hx] at hc
        rw [← hy] at hc'
        by_cases he : x = y
        · have q : (x.toList == y.toList) = true := by simp [he]
          have M := hide (Hag.out.step (by rw [← hx, ← hy, he]))
          clear he hx hy
          go_wp2
          go_quiet (fail)
          go_wp2
          go_roundw
          case rel => exact ⟨p + 1, _, by omega, by go_num, M.out, rfl⟩
          case measure => simp [intOf]; omega
        · have q : (x.toList == y.toList) = false := teq_no he
          have M : Hid (decide (l = k) = false) := hide (by simp; intro h; subst h; exact he (hx.trans hy.symm))
          clear he hx hy
          go_wp2
          go_quiet (fail)
          go_wp2
          go_ret
          exact ⟨bool_ret M.out.symm, j + nq, by rw [World.drewN_drewN]⟩
      · have hpe : n = l.length := ha.1
        have M : Hid (decide (l = k) = true) := hide (by
          have := Hag.out
          rw [show p = l.length from by omega] at this
          simp; exact SAgr.all HL.out this)
        go_wp2
        go_ret
        exact ⟨bool_ret M.out.symm, _, rfl⟩
  · have M : Hid (decide (l = k) = false) := hide (by simp; intro h; subst h; exact hnm (ha.1.trans hb.1.symm))
    go_enter Try.func24, Try.ntmps24
    go_wp2
    go_ret
    exact ⟨bool_ret M.out.symm, 0, rfl⟩
theorem eqTexts_l (w : World) (A B : Option Addr) (n m c d : Nat) (l k : List ByteArray) (ha : SL w A n l) (hb : SL w B m k) (hn : n ≤ 4611686018427387904) (hm : m ≤ 4611686018427387904) :
    Calls Try.prog 28 #[.slice A n c, .slice B m d] w fun e w' => e = .returned (.bool (decide (l = k))) ∧ ∃ j, w.drewN j = w' := by
  by_cases hnm : n = m
  · subst hnm
    have hl : l.length = k.length := by rw [← ha.1, ← hb.1]
    have HL := hide hl
    clear hl
    go_enter Try.func28, Try.ntmps28
    go_wp2
    go_loopw [5] (fun i u => ∃ p j : Nat, p ≤ n ∧ i = .int .i64 p ∧ SAgr l k p ∧ u = w.drewN j) (fun i _ => n - (intOf i).toNat)
    case atStart => exact ⟨0, 0, by omega, rfl, SAgr.zero _ _, rfl⟩
    case round =>
      obtain ⟨p, j, hp, rfl, hag, rfl⟩ := hrel
      have Hag := hide hag
      clear hag
      by_cases hlt : p < n
      · obtain ⟨b, o, rfl, hbl, hc⟩ := ha.at_ hlt
        obtain ⟨b', o', rfl, hbl', hc'⟩ := hb.at_ hlt
        obtain ⟨x, hx⟩ : ∃ x, x = sg l p := ⟨_, rfl⟩
        obtain ⟨y, hy⟩ : ∃ y, y = sg k p := ⟨_, rfl⟩
        rw [← hx] at hc
        rw [← hy] at hc'
        by_cases he : x = y
        · have q : (x.toList == y.toList) = true := by simp [he]
          have M := hide (Hag.out.step (by rw [← hx, ← hy, he]))
          clear he hx hy
          go_wp2
          go_quiet (fail)
          go_wp2
          go_roundw
          case rel => exact ⟨p + 1, _, by omega, by go_num, M.out, rfl⟩
          case measure => simp [intOf]; omega
        · have q : (x.toList == y.toList) = false := teq_no he
          have M : Hid (decide (l = k) = false) := hide (by simp; intro h; subst h; exact he (hx.trans hy.symm))
          clear he hx hy
          go_wp2
          go_quiet (fail)
          go_wp2
          go_ret
          exact ⟨bool_ret M.out.symm, j + nq, by rw [World.drewN_drewN]⟩
      · have hpe : n = l.length := ha.1
        have M : Hid (decide (l = k) = true) := hide (by
          have := Hag.out
          rw [show p = l.length from by omega] at this
          simp; exact SAgr.all HL.out this)
        go_wp2
        go_ret
        exact ⟨bool_ret M.out.symm, _, rfl⟩
  · have M : Hid (decide (l = k) = false) := hide (by simp; intro h; subst h; exact hnm (ha.1.trans hb.1.symm))
    go_enter Try.func28, Try.ntmps28
    go_wp2
    go_ret
    exact ⟨bool_ret M.out.symm, 0, rfl⟩

/-- The digits that markText writes, and its text. -/
def mtA : Nat → Nat → List UInt8 → List UInt8
  | 0, _, acc => acc
  | f + 1, k, acc => if k = 0 then acc else mtA f (k / 10) (UInt8.ofNat (48 + k % 10) :: acc)
def mt (k : Nat) : ByteArray := ⟨(109 :: mtA k k []).toArray⟩
theorem mtA_zero (f : Nat) (acc : List UInt8) : mtA f 0 acc = acc := by cases f <;> simp [mtA]
theorem mtA_step {f k : Nat} {acc : List UInt8} (h : 0 < k) : mtA (f + 1) k acc = mtA f (k / 10) (UInt8.ofNat (48 + k % 10) :: acc) := by simp [mtA, show ¬ k = 0 from by omega]

/-- A text of one byte. -/
def one (z : Int) : ByteArray := ⟨#[UInt8.ofNat z.toNat]⟩
theorem one_size (z : Int) : (one z).size = 1 := rfl
theorem one_cat (z : Int) (a : ByteArray) : (one z ++ a).data.toList = (UInt8.ofNat z.toNat) :: a.data.toList := by simp [one]
/-- string([]byte{z}), the slice just made. -/
theorem conv_new (u : World) (z : Int) : (convert 28 9 (.slice (some ⟨u.heap.size, 0, none⟩) 1 1)).run Try.prog (u.alloc (.cells #[.int .u8 z] 5)) = .ok (.string (one z)) (u.alloc (.cells #[.int .u8 z] 5)) := by
  rw [run_convert_bytes_string _ 28 9 5 _ _ _ Try.underlying28 Try.underlying5 Try.underlying9, run_bytesToString _ _ 1 1 [z]]
  · rfl
  · simp [loadCells, loadCellsFrom, Addr.add, Result.andThen]

theorem markText_l (k : Nat) (w : World) (h0 : 1 ≤ k) (h1 : k ≤ 2000000) :
    Calls Try.prog 82 #[.int .i64 k] w fun e w' => e = .returned (.string (mt k)) ∧ Below w.heap.size w w' := by
  have hcv := conv_new
  have hos := one_size
  have hd : decide (k = 0) = false := by simp; omega
  go_enter Try.func82, Try.ntmps82
  go_wp2
  go_loopw [0, 3] (fun x v u => ∃ (f j : Nat) (acc : ByteArray), j ≤ f ∧ j ≤ 2000000 ∧ acc.size + f ≤ 2000000 ∧ x = .int .i64 j ∧ v = .string acc ∧ mtA f j acc.data.toList = mtA k k [] ∧ Below w.heap.size w u) (fun x _ _ => (intOf x).toNat)
  case atStart => exact ⟨k, k, ⟨#[]⟩, by omega, by omega, by simpa [ByteArray.size] using h1, rfl, rfl, rfl, bl_refl _⟩
  case round =>
    obtain ⟨f, j, acc, hf, hj, hal, rfl, rfl, hm, hb⟩ := hrel
    have HM := hide hm
    clear hm
    by_cases hlt : 0 < j
    · obtain ⟨f, rfl⟩ : ∃ f', f = f' + 1 := ⟨f - 1, by omega⟩
      have M := hide ((mtA_step (f := f) (acc := acc.data.toList) hlt).symm.trans HM.out)
      go_wp2
      go_roundw
      case rel =>
        refine ⟨f, j / 10, _, by omega, by omega, ?_, by go_num, rfl, ?_, bl_alloc hb _⟩
        · rw [ByteArray.size_append, one_size]; omega
        · rw [← M.out, one_cat, show (48 + (j : Int) % 10).toNat = 48 + j % 10 from by omega]
      case measure => simp [intOf]; omega
    · obtain rfl : j = 0 := by omega
      have M := hide ((mtA_zero f acc.data.toList).symm.trans HM.out)
      go_wp2
      go_ret
      refine ⟨str_ret ?_, hb⟩
      apply ByteArray.ext
      rw [← Array.toList_inj]
      simp [mt, ← M.out]

/-- The texts that markStringS writes. -/
def mts (z n : Nat) : List ByteArray := (List.range n).map fun i => mt (z + i)
theorem mts_len (z n : Nat) : (mts z n).length = n := by simp [mts]
theorem mts_get {z n k : Nat} (h : k < n) : sg (mts z n) k = mt (z + k) := by simp [sg, mts, List.getD, h]
theorem gr_below {a w w1 : World} {r : Option Nat} (h : Below w.heap.size w w1) (h0 : a.grownBy w r) : a.grownBy w1 r :=
  ⟨h.os.trans h0.os, h.tape.trans h0.tape, h.output.trans h0.output, Nat.le_trans h0.size h.size, fun i hi hne => (h.block i (Nat.lt_of_lt_of_le hi h0.size)).trans (h0.block i hi hne)⟩

theorem markStringS_w (w : World) (e : TypeId) (B : Nat) (A : Option Addr) (c : Nat) (l : List ByteArray) (z : Nat) (ha : OS w e B A c l) (hn : z + l.length ≤ 2000000) (z0 : 1 ≤ z) :
    Calls Try.prog 25 #[.slice A l.length c, .int .i64 z] w fun e' w' => e' = .returned (.int .i64 ((z : Int) + l.length)) ∧ OS w' e B A c (mts z l.length) ∧ w.grownBy w' (Value.slice A l.length c).ownBlock := by
  rcases Nat.eq_zero_or_pos l.length with h0 | h0
  · have E := hide (List.eq_nil_of_length_eq_zero h0)
    have H : Hid (OS w e B A c (mts z l.length)) := hide (by rw [E.out] at ha ⊢; exact ha)
    rw [h0] at H ⊢
    go_enter Try.func25, Try.ntmps25
    go_wp2
    go_loop [1, 5] (fun k i => k = .int .i64 z ∧ i = .int .i64 0) (fun _ _ => 0)
    case atStart => exact ⟨rfl, rfl⟩
    case round =>
      obtain ⟨rfl, rfl⟩ := hrel
      go_wp2
      go_ret
      exact ⟨int_ret (by simp), H.out, World.grownBy.refl _ _⟩
  · obtain ⟨g, rfl, hB, hg, hfz⟩ := ha.frozen h0
    have hmx := ha.len
    have HU := hide (mts_len z l.length)
    have H0 : Hid (OS w e B (some ⟨g, 0, none⟩) c (smix (mts z l.length) l 0)) := hide (by rw [smix_zero]; exact ha)
    clear ha hfz
    go_enter Try.func25, Try.ntmps25
    go_wp2
    go_loopw [1, 5] (fun k i u => ∃ p : Nat, p ≤ l.length ∧ k = .int .i64 ((z : Int) + p) ∧ i = .int .i64 p ∧ OS u e B (some ⟨g, 0, none⟩) c (smix (mts z l.length) l p) ∧ w.grownBy u (some g)) (fun _ i _ => l.length - (intOf i).toNat)
    case atStart => exact ⟨0, by omega, by go_num, rfl, H0.out, World.grownBy.refl _ _⟩
    case round =>
      obtain ⟨p, hp, rfl, rfl, hol, hgr⟩ := hrel
      have hml : (smix (mts z l.length) l p).length = l.length := by rw [smix_len (by rw [HU.out]), HU.out]
      by_cases hlt : p < l.length
      · have HML := hide hml
        have HG := hide hgr
        have HO := hide hol
        clear hml hgr hol
        go_wp2_with fail
        rw [show (z : Int) + p = ((z + p : Nat) : Int) from by omega]
        refine (markText_l _ _ (by omega) (by omega)).mono ?_
        rintro e1 u1 ⟨rfl, hb1⟩
        have ho1 := HO.out.below hb1
        obtain ⟨b, o, he, hbg, hc⟩ := ho1.reads.at_ (i := p) (by rw [HML.out]; exact hlt)
        obtain ⟨g', he', _, _, hfz⟩ := ho1.frozen (by rw [HML.out]; omega)
        injection he with he; injection he' with he'
        cases he; cases he'
        have fz := hfz p
        rw [Nat.zero_add] at hc
        have M := hide (ho1.set_ p (mt (z + p))).1
        have HG2 := hide (gr_below hb1 HG.out)
        clear hfz ho1 hb1
        go_wp2
        go_roundw
        case rel =>
          refine ⟨p + 1, by omega, by go_num, by go_num, ?_, on_set' HG2.out (.inl rfl) _⟩
          have := M.out
          rwa [smix_put (by rw [HU.out]) (by rw [HU.out]; exact hlt) (mts_get hlt)] at this
        case measure => simp [intOf]; omega
      · have hpe : p = l.length := by omega
        have M : Hid (OS wr e B (some ⟨g, 0, none⟩) c (mts z l.length)) := hide (by
          rwa [hpe, smix_done (by rw [HU.out]) HU.out] at hol)
        clear hml hol
        go_wp2
        go_ret
        exact ⟨int_ret (by omega), M.out, hgr⟩
theorem markStringS_l (w : World) (e : TypeId) (B : Nat) (A : Option Addr) (c : Nat) (l : List ByteArray) (z : Nat) (ha : OS w e B A c l) (hn : l.length ≤ 1000000) (z0 : 1 ≤ z) (z1 : z ≤ 1000000) :
    Calls Try.prog 25 #[.slice A l.length c, .int .i64 z] w fun e' w' => e' = .returned (.int .i64 ((z : Int) + l.length)) ∧ OS w' e B A c (mts z l.length) ∧ w.grownBy w' (Value.slice A l.length c).ownBlock := markStringS_w w e B A c l z ha (by omega) z0

theorem SL.cellAt {w : World} {b o n : Nat} {l : List ByteArray} (h : SL w (some ⟨b, o, none⟩) n l) {i : Nat} (hi : i < n) : w.cell? ⟨b, o + i, none⟩ = some (.string (sg l i)) := by
  obtain ⟨b', o', e, _, hc⟩ := h.at_ hi
  injection e with e
  cases e
  exact hc
theorem heldStringS_l (w : World) (A : Option Addr) (c n : Nat) (z : Nat) (ha : SL w A n (mts z n)) (hn : n ≤ 1000000) (z0 : 1 ≤ z) (z1 : z ≤ 1000000) :
    Calls Try.prog 26 #[.slice A n c, .int .i64 z] w fun e w' => e = .returned (.int .i64 ((z : Int) + n)) ∧ Below w.heap.size w w' := by
  go_enter Try.func26, Try.ntmps26
  go_wp2
  go_loopw [1, 5] (fun k i u => ∃ p : Nat, p ≤ n ∧ k = .int .i64 ((z : Int) + p) ∧ i = .int .i64 p ∧ Below w.heap.size w u) (fun _ i _ => n - (intOf i).toNat)
  case atStart => exact ⟨0, by omega, by go_num, rfl, bl_refl _⟩
  case round =>
    obtain ⟨p, hp, rfl, rfl, hb⟩ := hrel
    by_cases hlt : p < n
    · have hs := ha.below hb
      obtain ⟨b, o, rfl, hbl, hc⟩ := hs.at_ hlt
      rw [mts_get hlt] at hc
      obtain ⟨x, hx⟩ : ∃ x, x = mt (z + p) := ⟨_, rfl⟩
      rw [← hx] at hc
      have q := teq_yes x
      have CM := fun (u : World) => markText_l (z + p) u (by omega) (by omega)
      rw [← hx, show ((z + p : Nat) : Int) = (z : Int) + p from by omega] at CM
      have HC := hide CM
      have HB := hide hb
      clear CM hx hs ha hb
      go_wp2_with fail
      go_region_with (go_at_call 82; (with_reducible refine (HC.out _).mono ?_); rintro e w' ⟨rfl, hbq⟩; have hc2 := keep_cell hbq (show World.cell? _ ⟨b, o + p, none⟩ = some (.string x) by simpa using hc))
      all_goals
        go_wp2
        go_roundw
        case rel => exact ⟨p + 1, by omega, by go_num, by go_num, bl_call hbq (bl_drew HB.out)⟩
        case measure => simp [intOf]; omega
    · go_wp2
      go_ret
      exact ⟨int_ret (by omega), hb⟩
end Go.Proofs.Ytlfhfbeacleggaa
