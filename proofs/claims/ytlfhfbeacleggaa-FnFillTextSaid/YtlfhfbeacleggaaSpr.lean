/- Words as a line, with spaces spread between them, in the program and in its model. -/
import Derived.Test.YtlfhfbeacleggaaWr
import Derived.Test.YtlfhfbeacleggaaBld
import Derived.Test.YtlfhfbeacleggaaBst
import Derived.Test.YtlfhfbeacleggaaRpt
import Derived.BigQuiet
namespace Go.Proofs.Ytlfhfbeacleggaa
open Go.ChangeShapes Go.WideShapes Go.ChangeAt Go.RowKit
set_option linter.unusedVariables false
open Classical

/-- The further spaces of gap k. -/
def gp (r g k : Nat) : Nat := r * k / g - r * (k - 1) / g
/-- The characters of the first k words, with the gaps between them. -/
def fb (l : List ByteArray) (r : Nat) : Nat → List UInt8
  | 0 => []
  | k + 1 => fb l r k ++ (if k = 0 then [] else List.replicate (1 + gp r (l.length - 1) k) 32) ++ (sg l k).data.toList
def mkb (x : List UInt8) : ByteArray := ⟨x.toArray⟩
theorem mkb_data (s : ByteArray) : mkb s.data.toList = s := by simp [mkb]
theorem mkb_app (x : List UInt8) (n : Nat) (s : ByteArray) : mkb x ++ spc n ++ s = mkb (x ++ List.replicate n 32 ++ s.data.toList) := by
  apply ByteArray.ext
  apply Array.toList_inj.1
  simp [mkb, spc, ByteArray.data_append]
theorem mkb_size (x : List UInt8) : (mkb x).size = x.length := by simp [mkb, ByteArray.size]
theorem gp_facts {r g k : Nat} (hg : 1 ≤ g) (hk : 1 ≤ k) (hr : r ≤ 61) (hk40 : k ≤ 40) : ∃ A B QA QB : Nat, A ≤ 2500 ∧ B ≤ 2500 ∧ A = r * k ∧ B = r * (k - 1) ∧ QA = A / g ∧ QB = B / g ∧ QB ≤ QA ∧ QA ≤ 2500 ∧ gp r g k = QA - QB ∧ QA - QB ≤ 61 := by
  have h1 : r * k ≤ 61 * 40 := Nat.mul_le_mul hr hk40
  have h2 : r * (k - 1) ≤ r * k := Nat.mul_le_mul_left _ (by omega)
  have h3 : r * k = r * (k - 1) + r := by
    obtain ⟨m, rfl⟩ : ∃ m, k = m + 1 := ⟨k - 1, by omega⟩
    rw [Nat.mul_succ]; rfl
  have h4 : r * k / g ≤ r * (k - 1) / g + r := by
    rw [h3]
    have : r * (k - 1) + r ≤ r * (k - 1) + r * g := Nat.add_le_add_left (Nat.le_mul_of_pos_right _ hg) _
    exact Nat.le_trans (Nat.div_le_div_right this) (by rw [Nat.add_mul_div_right _ _ (by omega)]; exact Nat.le_refl _)
  have h5 : r * (k - 1) / g ≤ r * k / g := Nat.div_le_div_right h2
  have h6 : r * k / g ≤ r * k := Nat.div_le_self _ _
  exact ⟨r * k, r * (k - 1), _, _, by omega, by omega, rfl, rfl, rfl, rfl, h5, by omega, rfl, by omega⟩
theorem fb_len {l : List ByteArray} {r k : Nat} (h : WTo l k) (hg : 2 ≤ l.length) (hr : r ≤ 61) (hk : k ≤ 40) : (fb l r k).length ≤ 82 * k := by
  induction k with
  | zero => simp [fb]
  | succ k ih =>
    have a := ih (fun j hj => h j (by omega)) (by omega)
    have b := (okWord_iff.1 (h k (by omega))).1.2
    simp only [fb, List.length_append]
    have c : (if k = 0 then [] else List.replicate (1 + gp r (l.length - 1) k) (32 : UInt8)).length ≤ 62 := by
      split
      · simp
      · obtain ⟨A, B, QA, QB, _, _, _, _, _, _, _, _, e, f⟩ := gp_facts (r := r) (g := l.length - 1) (k := k) (by omega) (by omega) hr (by omega)
        simp; omega
    have d : (sg l k).data.toList.length = (sg l k).size := by simp
    omega
theorem fb_len1 {l : List ByteArray} {r k : Nat} (h : WTo l k) (hk : k ≤ 1) : (fb l r k).length ≤ 20 := by
  rcases (by omega : k = 0 ∨ k = 1) with rfl | rfl
  · simp [fb]
  · have b := (okWord_iff.1 (h 0 (by omega))).1.2
    simp [fb]; omega
theorem spc_snoc (n : Nat) : spc n ++ ⟨#[32]⟩ = spc (n + 1) := by
  apply ByteArray.ext
  apply Array.toList_inj.1
  simp [spc, ByteArray.data_append, List.replicate_succ']
theorem spaces_s (n : Nat) (w : World) (h : n ≤ 1000) :
    Calls Try.prog 138 #[.int .i64 n] w fun e w' => e = .returned (.string (spc n)) ∧ w = w' := by
  go_enter Try.func138, Try.ntmps138
  go_wp2
  go_loop [3, 4] (fun v i => ∃ p : Nat, p ≤ n ∧ i = .int .i64 p ∧ v = .string (spc p)) (fun _ i => n - (intOf i).toNat)
  case atStart => exact ⟨0, by omega, rfl, rfl⟩
  case round =>
    obtain ⟨p, hp, rfl, rfl⟩ := hrel
    have hs := spc_size p
    by_cases hlt : p < n
    · go_wp2
      go_round
      case rel => exact ⟨p + 1, by omega, by go_num, by rw [← spc_snoc]⟩
      case measure => simp [intOf]; omega
    · have E := hide (show p = n by omega)
      go_wp2
      go_ret
      exact ⟨str_ret (by rw [E.out]), rfl⟩
set_option maxRecDepth 8000 in
set_option maxHeartbeats 4000000 in
theorem spread_i (w : World) (A : Option Addr) (n c r : Nat) (l : List ByteArray) (ha : SL w A n l) (hs : WTo l l.length) (hl : l.length ≤ 40) (hr : r ≤ 61) :
    Calls Try.prog 81 #[.slice A n c, .int .i64 r] w fun e w' => e = .returned (.string (mkb (fb l r l.length))) ∧ Below w.heap.size w w' := by
  obtain rfl : n = l.length := ha.1
  have HA := hide ha
  have HS := hide hs
  have H0 : Hid (Lib.IsBuilder 165 5 w.heap.size w.heap.size (Lib.byteCells (fb l r 0)) (w.alloc (.cells #[.pointer none, .slice none 0 0] 165))) := hide (Lib.fresh_isBuilder _ _ w)
  have hg : ∀ k, k ≤ l.length → (fb l r k).length ≤ 1000000 := fun k hk => by
    rcases Nat.lt_or_ge l.length 2 with h2 | h2
    · have := fb_len1 (l := l) (r := r) (k := k) (fun j hj => HS.out j (by omega)) (by omega)
      omega
    · have := fb_len (l := l) (r := r) (k := k) (fun j hj => HS.out j (by omega)) h2 hr (by omega)
      omega
  clear ha hs
  rcases Nat.eq_zero_or_pos l.length with hl0 | hl0
  · have LN := List.eq_nil_of_length_eq_zero hl0
    subst LN
    go_enter Try.func81, Try.ntmps81
    go_wp2
    go_loopw [15] (fun i u => i = .int .i64 0 ∧ Lib.IsBuilder 165 5 w.heap.size w.heap.size (Lib.byteCells (fb [] r 0)) u ∧ Below w.heap.size w u) (fun _ _ => 0)
    case atStart => exact ⟨rfl, H0.out, bl_alloc (bl_refl _) _⟩
    case round =>
      obtain ⟨rfl, hib, hbl⟩ := hrel
      have hzw := hbl.size
      go_wp2_with fail
      refine (String_any w.heap.size w.heap.size (fb [] r 0) _ hib hzw).mono ?_
      rintro e u3 ⟨rfl, hb3⟩
      go_wp2
      go_ret
      exact ⟨str_ret rfl, hbl.trans hb3⟩
  obtain ⟨g, hgd⟩ : ∃ g, g = l.length - 1 := ⟨_, rfl⟩
  have gi : (l.length : Int) - 1 = (g : Int) := by omega
  have hg40 : g ≤ 40 := by omega
  have HGD := hide hgd
  clear hgd
  go_enter Try.func81, Try.ntmps81
  go_wp2
  go_loopw [15] (fun i u => ∃ p : Nat, p ≤ l.length ∧ i = .int .i64 p ∧ Lib.IsBuilder 165 5 w.heap.size w.heap.size (Lib.byteCells (fb l r p)) u ∧ Below w.heap.size w u) (fun i _ => l.length - (intOf i).toNat)
  case atStart => exact ⟨0, by omega, rfl, H0.out, bl_alloc (bl_refl _) _⟩
  case round =>
    obtain ⟨p, hp, rfl, hib, hbl⟩ := hrel
    have HIB := hide hib
    have HB := hide hbl
    have hzw := hbl.size
    clear hib
    by_cases hlt : p < l.length
    · obtain ⟨b, o, rfl, hb0, c0⟩ := (HA.out.below hbl).at_ hlt
      have hsz := (okWord_iff.1 (HS.out p hlt)).1.2
      obtain ⟨s, hsd⟩ : ∃ s, s = sg l p := ⟨_, rfl⟩
      rw [← hsd] at c0 hsz
      have HSD := hide hsd
      clear hsd hbl
      rcases Nat.eq_zero_or_pos p with h0 | h0
      · subst h0
        rw [Nat.add_zero] at c0
        have NX : Hid (Lib.byteCells (fb l r 0) ++ Lib.strCells s = Lib.byteCells (fb l r 1)) := hide (by
          rw [Lib.strCells_eq, ← Lib.byteCells_append]
          simp only [fb, if_true]
          rw [← HSD.out]; rfl)
        go_wp2_with fail
        refine (WriteString_any w.heap.size w.heap.size _ s _ HIB.out (by simp [Lib.byteCells, fb]; omega) (by simpa using hzw)).mono ?_
        rintro e u2 ⟨rfl, hw2, hb2⟩
        rw [NX.out] at hw2
        have HIB4 := hide (Or.inr hw2 : Lib.IsBuilder 165 5 w.heap.size w.heap.size (Lib.byteCells (fb l r 1)) u2)
        have HB2 := hide (HB.out.trans hb2)
        clear hw2 hb2
        go_wp2
        go_roundw
        case rel => exact ⟨1, by omega, by go_num, HIB4.out, HB2.out⟩
        case measure => simp [intOf]; omega
      · have hgd := HGD.out
        obtain ⟨X, Y, QX, QY, hX, hY, eX, eY, eQX, eQY, hQ, hQX, egp, hQ61⟩ := gp_facts (r := r) (g := g) (k := p) (by omega) h0 hr (by omega)
        have k1 : (p : Int) - 1 = ((p - 1 : Nat) : Int) := by omega
        obtain ⟨q, hq⟩ : ∃ q, q = p - 1 := ⟨_, rfl⟩
        rw [← hq] at k1 eY
        have m1 : (r : Int) * (p : Int) = (X : Int) := by rw [eX]; exact (Int.natCast_mul r p).symm
        have m2 : (r : Int) * (q : Int) = (Y : Int) := by rw [eY]; exact (Int.natCast_mul r q).symm
        have d1 : (X : Int) / (g : Int) = (QX : Int) := by rw [eQX]; rfl
        have d2 : (Y : Int) / (g : Int) = (QY : Int) := by rw [eQY]; rfl
        have g1 : 1 ≤ g := by omega
        have EG := hide (show gp r (l.length - 1) p = QX - QY by rw [← hgd]; exact egp)
        have hp0 : (0 : Int) < (p : Int) := by omega
        have hq40 : q ≤ 40 := by omega
        clear eX eY eQX eQY egp hq hgd
        have cast1 : (QX : Int) - (QY : Int) = ((QX - QY : Nat) : Int) := by omega
        have cast2 : (1 : Int) + ((QX - QY : Nat) : Int) = ((1 + (QX - QY) : Nat) : Int) := by omega
        obtain ⟨N, hN⟩ : ∃ N, N = 1 + (QX - QY) := ⟨_, rfl⟩
        have eN : (1 : Int) + ((QX : Int) - (QY : Int)) = (N : Int) := by omega
        have hN62 : N ≤ 62 := by omega
        have HN := hide hN
        clear hN cast1 cast2
        go_wp2_with fail
        go_quiet (fail)
        go_wp2_with (go_at_call 141; refine (Repeat_sp N (by omega) _).mono ?_; rintro e w' ⟨rfl, rfl⟩)
        have HIB2 := hide (show Lib.IsBuilder 165 5 w.heap.size w.heap.size (Lib.byteCells (fb l r p)) (wr.drewN nq) from HIB.out)
        refine (WriteString_any w.heap.size w.heap.size _ (spc N) _ HIB2.out (by rw [spc_size]; have := hg p (by omega); simp [Lib.byteCells]; omega) (by simpa using hzw)).mono ?_
        rintro e u1 ⟨rfl, hw1, hb1⟩
        clear d1 d2 m1 m2 k1 eN
        have HIB3 := hide (Or.inr hw1 : Lib.IsBuilder 165 5 w.heap.size w.heap.size (Lib.byteCells (fb l r p) ++ Lib.strCells (spc N)) u1)
        have HB1 := hide ((show Below w.heap.size w (wr.drewN nq) from bl_drewN HB.out _).trans hb1)
        have hz1 := HB1.out.size
        have NX : Hid (Lib.byteCells (fb l r p) ++ Lib.strCells (spc N) ++ Lib.strCells s = Lib.byteCells (fb l r (p + 1))) := hide (by
          have e0 : ¬ p = 0 := by omega
          rw [Lib.strCells_eq, Lib.strCells_eq, ← Lib.byteCells_append, ← Lib.byteCells_append, spc_toList]
          simp only [fb, if_neg e0]
          rw [EG.out, ← HN.out, ← HSD.out])
        have hlb := hg p (by omega)
        clear hw1 hb1
        go_wp2_with fail
        refine (WriteString_any w.heap.size w.heap.size _ s _ HIB3.out (by simp [Lib.byteCells, Lib.strCells, spc]; have : s.data.toList.length = s.size := by simp
                                                                           simp at this; omega) (by simpa using hz1)).mono ?_
        rintro e u2 ⟨rfl, hw2, hb2⟩
        rw [NX.out] at hw2
        have HIB4 := hide (Or.inr hw2 : Lib.IsBuilder 165 5 w.heap.size w.heap.size (Lib.byteCells (fb l r (p + 1))) u2)
        have HB2 := hide (HB1.out.trans hb2)
        clear hw2 hb2
        go_wp2
        go_roundw
        case rel => exact ⟨p + 1, by omega, by go_num, HIB4.out, HB2.out⟩
        case measure => simp [intOf]; omega
    · have E := hide (show p = l.length by omega)
      go_wp2_with fail
      refine (String_any w.heap.size w.heap.size (fb l r p) _ HIB.out hzw).mono ?_
      rintro e u3 ⟨rfl, hb3⟩
      have HB3 := hide (HB.out.trans hb3)
      clear hb3
      go_wp2
      go_ret
      exact ⟨str_ret (by rw [← E.out]; rfl), HB3.out⟩
end Go.Proofs.Ytlfhfbeacleggaa
