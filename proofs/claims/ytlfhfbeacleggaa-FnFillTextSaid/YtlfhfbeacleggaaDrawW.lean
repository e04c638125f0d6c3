/- Drawn words and widths. -/
import Derived.Test.YtlfhfbeacleggaaDrawI
import Derived.Test.YtlfhfbeacleggaaDrawS
import Derived.Test.YtlfhfbeacleggaaTxt
namespace Go.Proofs.Ytlfhfbeacleggaa
open Go.ChangeShapes Go.WideShapes Go.ChangeAt Go.RowKit
set_option linter.unusedVariables false
set_option maxRecDepth 4000

theorem OS.readW {w w' : World} {B g c : Nat} {e : TypeId} {A : Option Addr} {l : List ByteArray} (h : OS w e B A c l) (hg : w.grownBy w' (some g)) (hlt : g < B) : OS w' e B A c l :=
  h.kept hg (fun k hk e => by
    have := (h.own_lt k hk).1
    injection e with e
    omega)
theorem OS.takeW {w : World} {e : TypeId} {B c k : Nat} {A : Option Addr} {l : List ByteArray} (h : OS w e B A c l) (hk : k ≤ l.length) (h0 : 0 < l.length) : OS w e B A c (l.take k) := by
  rcases h.2 with ⟨_, h1⟩ | ⟨g, cap, cur, h1, h2, h3, h4, h5, h6, h7⟩
  · omega
  · injection h1 with h1 _ h8
    subst h1
    subst h8
    have hl : (l.take k).length = k := stake_len hk
    unfold OS
    rw [hl]
    refine ⟨by simp; omega, .inr ⟨g, c, cur, rfl, h2, h3, by omega, h5, h6, ?_⟩⟩
    rw [List.map_take, ← h7, List.take_take]
    congr 1
    omega
/-- Words of no great length. -/
def WQ (l : List ByteArray) : Prop := ∀ k, k < l.length → (sg l k).size ≤ 27
theorem WQ.nil : WQ [] := fun k hk => by simp at hk
theorem WQ.snoc {l : List ByteArray} {z : ByteArray} (h : WQ l) (hz : z.size ≤ 27) : WQ (l ++ [z]) := fun k hk => sg_snoc (P := fun x => x.size ≤ 27) hz h k hk
theorem WQ.set {l : List ByteArray} {z : ByteArray} (h : WQ l) (hz : z.size ≤ 27) (i : Nat) : WQ (l.set i z) := fun k hk => by
  rw [List.length_set] at hk
  rw [sg_set hk]
  split
  · exact hz
  · exact h k hk
theorem WQ.take {l : List ByteArray} (h : WQ l) (m : Nat) : WQ (l.take m) := fun k hk => by
  have hk2 : k < l.length := by simp at hk; omega
  have e : sg (l.take m) k = sg l k := by rw [sg_lt hk, sg_lt hk2]; simp
  rw [e]; exact h k hk2
set_option maxHeartbeats 4000000 in
theorem someWords_any (w : World) (B g N : Nat) (h : RD w B g N) (hN : N ≤ 10000000) (hB : B ≤ w.heap.size) :
    Calls Try.prog 143 #[.pointer (some ⟨g, 0, none⟩)] w fun e w' => ∃ (A : Option Addr) (c : Nat) (l : List ByteArray), e = .returned (.slice A l.length c) ∧ OS w' 9 w.heap.size A c l ∧ l.length ≤ 11 ∧ WQ l ∧ RD w' B g (N + 120) ∧ w.grownBy w' (some g) := by
  obtain ⟨i0, hi0, jz0, jz1, jz2⟩ := info_parts str_info
  have hg := h.lt
  go_enter Try.func143, Try.ntmps143
  have H0 : Hid (OS (w.alloc (.cells #[] 9)) 9 w.heap.size (some ⟨w.heap.size, 0, none⟩) 0 []) := hide (by
    have := OS.lit (w := w) (e := 9) (B := w.heap.size) (Nat.le_refl _) [] (by simp)
    simpa using this)
  go_wp2_with fail
  refine (one_any _ B g _ _ _ (fun z => 0 ≤ z ∧ z ≤ 11) (RD.alloc (RD.alloc h _) _) (by omega) (by first | exact heap_alloc_new _ _ | exact heap_new2 _ _ _) (by simp; omega) (by rfl) (by decide) (by intro v hv; simp at hv; rcases hv with rfl | rfl | rfl | rfl | rfl | rfl <;> exact ⟨_, rfl, by omega⟩)).mono ?_
  rintro e u0 ⟨r, ⟨hr0, hr1⟩, rfl, hrd, hon⟩
  have H1 := hide ((H0.out.alloc _).readW hon hg)
  have O1 := hide (on_call hon (on_alloc (on_alloc (on_refl w (some g)) _) _))
  have hz := hon.size
  simp at hz
  clear hon h H0
  go_wp2
  go_loopw [3, 4] (fun v i u => ∃ (q m : Nat) (A : Option Addr) (cc : Nat) (l : List ByteArray), q + m ≤ 11 ∧ i = .int .i64 m ∧ v = .slice A q cc ∧ q = l.length ∧ WQ l ∧ OS u 9 w.heap.size A cc l ∧ RD u B g (N + 100 - 8 * m) ∧ w.grownBy u (some g)) (fun _ i _ => (intOf i).toNat)
  case atStart => exact ⟨0, r.toNat, _, _, [], by omega, by go_num, rfl, rfl, WQ.nil, H1.out, hrd.more (by omega) (Nat.le_refl _) (by omega), O1.out⟩
  case round =>
    obtain ⟨q, m, A, cc, l, hqm, rfl, rfl, hpl, htq, hol, hrd, hon⟩ := hrel
    have HPL := hide hpl
    have HTQ := hide htq
    clear hpl htq
    have hzr := hon.size
    rcases Nat.eq_zero_or_pos m with hm | hm
    · subst hm
      rcases Nat.eq_zero_or_pos q with h0 | h0
      · subst h0
        go_wp2
        go_ret
        exact ⟨A, cc, l, by rw [← HPL.out]; rfl, hol, by rw [← HPL.out]; omega, HTQ.out, hrd.more (by omega) (Nat.le_refl _) (by omega), hon⟩
      · have g0 : (0 : Int) < (q : Int) := by omega
        go_wp2_with fail
        (with_reducible refine (pick_any _ _ _ _ _ hrd (by omega) (by omega) (by omega)).mono ?_)
        rintro e u2 ⟨s, hs0, hs1, rfl, hrd2, hon2⟩
        have hol2 := hol.readW hon2 hg
        have O2 := hide (on_call hon2 hon)
        have hz2 := hon2.size
        clear hol hon hon2 hrd
        rcases (by omega : s = 0 ∨ s ≠ 0) with rfl | hs
        · go_wp2_with fail
          refine (anyWord_any _ _ _ _ hrd2 (by omega)).mono ?_
          rintro e u3 ⟨z, hz, rfl, hrd3, hon3⟩
          have hol3 := hol2.readW hon3 hg
          have O3 := hide (on_call hon3 O2.out)
          have hz3 := hon3.size
          obtain ⟨g', rfl, hBg, hgz, hfz⟩ := hol3.frozen (by rw [← HPL.out]; exact h0)
          obtain ⟨b, o, he, _, c0⟩ := hol3.reads.at_ (i := 0) (by rw [← HPL.out]; exact h0)
          injection he with he
          cases he
          have f0 := hfz 0
          rw [Nat.zero_add] at c0
          have M := hide (hol3.set_ 0 z).1
          have HZ := hide hz
          clear hfz hol3 hol2 hon3 hz
          go_wp2
          go_ret
          exact ⟨some ⟨g', 0, none⟩, cc, l.set 0 z, by rw [List.length_set, ← HPL.out]; rfl, M.out, by rw [List.length_set, ← HPL.out]; omega, HTQ.out.set HZ.out 0, (RD.set_ hrd3 (p := ⟨g', 0, none⟩) (by show B ≤ g'; omega) _).more (by omega) (Nat.le_refl _) (by simp; omega), on_set O3.out (.inr (by show w.heap.size ≤ g'; omega)) _⟩
        · have hs' : (s == 0) = false := beq_eq_false_iff_ne.2 hs
          go_wp2
          go_ret
          exact ⟨A, cc, l, by rw [← HPL.out]; rfl, hol2, by rw [← HPL.out]; omega, HTQ.out, hrd2.more (by omega) (Nat.le_refl _) (by omega), O2.out⟩
    · go_wp2_with fail
      refine (randomWord_any _ _ _ _ hrd (by omega)).mono ?_
      rintro e u2 ⟨s, hs, rfl, hrd2, hon2⟩
      have hol2 := hol.readW hon2 hg
      have O2 := hide (on_call hon2 hon)
      have hz2 := hon2.size
      clear hol hon hon2 hrd
      go_wp2_with (at_builtin; refine wpList_append_str rfl (.tmp 13) (.tmp 16) _ rfl 9 i0 Try.underlying22 hi0 jz0 jz1 jz2 w.heap.size A cc q l rfl HPL.out (hol2.alloc _) u2.heap.size s rfl (by simp) (by omega) (by simp; omega) ?_; intro A' c' w' hol' hb' hg')
      go_roundw
      case rel => exact ⟨q + 1, m - 1, A', c', l ++ [s], by omega, by go_num, rfl, by simp [HPL.out], HTQ.out.snoc (by omega), hol', ((hrd2.alloc _).below' hb' (by omega)).more (by omega) (Nat.le_refl _) (by have := hb'.size; simp at this; omega), on_below' hb' (Nat.le_refl _) (on_alloc O2.out _)⟩
      case measure => simp [intOf]; omega
theorem textWidth_any (w : World) (B g N : Nat) (h : RD w B g N) (hN : N ≤ 10000000) (hB : B ≤ w.heap.size) :
    Calls Try.prog 144 #[.pointer (some ⟨g, 0, none⟩)] w fun e w' => ∃ z : Int, (19 ≤ z ∧ z ≤ 61) ∧ e = .returned (.int .i64 z) ∧ RD w' B g (N + 2) ∧ w.grownBy w' (some g) := by
  have hg := h.lt
  go_enter Try.func144, Try.ntmps144
  go_wp2_with fail
  refine (one_any _ B g _ _ _ (fun z => 19 ≤ z ∧ z ≤ 61) (RD.alloc h _) (by omega) (by exact heap_alloc_new _ _) (by omega) (by rfl) (by decide) (by intro v hv; simp at hv; rcases hv with rfl | rfl | rfl | rfl | rfl | rfl | rfl <;> exact ⟨_, rfl, by omega⟩)).mono ?_
  rintro e u0 ⟨z, hz, rfl, hrd, hon⟩
  have HZ := hide hz
  have O1 := hide (on_call hon (on_alloc (on_refl w (some g)) _))
  clear hz hon
  go_wp2
  go_ret
  exact ⟨z, HZ.out, rfl, hrd.more (by omega) (Nat.le_refl _) (by have := hrd.2.1; omega), O1.out⟩
end Go.Proofs.Ytlfhfbeacleggaa
