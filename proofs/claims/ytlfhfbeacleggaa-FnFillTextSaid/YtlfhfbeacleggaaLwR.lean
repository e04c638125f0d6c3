/- The law FnWrapOne holds at every input: a single line costs nothing. No condition. -/
import Derived.Test.YtlfhfbeacleggaaLwP
import Derived.Test.YtlfhfbeacleggaaSpr
namespace Go.Proofs.Ytlfhfbeacleggaa
open Go.ChangeShapes Go.WideShapes Go.ChangeAt Go.RowKit
set_option linter.unusedVariables false
set_option linter.unusedSimpArgs false
open Classical

theorem gp0 (g k : Nat) : gp 0 g k = 0 := by simp [gp]
theorem fb0_step (l : List ByteArray) (k : Nat) : fb l 0 (k + 1) = fb l 0 k ++ (if k = 0 then [] else [32]) ++ (sg l k).data.toList := by
  simp only [fb, gp0]
  rfl
theorem fb0_len (l : List ByteArray) : ∀ k, (fb l 0 (k + 1)).length = sm l (k + 1) + k
  | 0 => by simp [fb, sm]
  | k + 1 => by
    have := fb0_len l k
    rw [fb0_step, List.length_append, List.length_append, this, if_neg (by omega)]
    simp [sm]; omega
theorem mkb_two (x y : List UInt8) (s : ByteArray) : mkb x ++ (⟨y.toArray⟩ : ByteArray) ++ s = mkb (x ++ y ++ s.data.toList) := by
  apply ByteArray.ext
  apply Array.toList_inj.1
  simp [mkb, ByteArray.data_append]
theorem mkb_one (x : List UInt8) (s : ByteArray) : mkb x ++ s = mkb (x ++ s.data.toList) := by
  apply ByteArray.ext
  apply Array.toList_inj.1
  simp [mkb, ByteArray.data_append]
set_option maxHeartbeats 1000000 in
theorem joinWords_l (w : World) (A : Option Addr) (n c : Nat) (l : List ByteArray) (ha : SL w A n l) (hs : ∀ k, k < l.length → (sg l k).size ≤ 1000) (hl : l.length ≤ 1000) :
    Calls Try.prog 30 #[.slice A n c] w fun e w' => e = .returned (.string (mkb (fb l 0 l.length))) ∧ w = w' := by
  obtain rfl : n = l.length := ha.1
  have HA := hide ha
  have HSm := hide (fun (k : Nat) (hk : k ≤ l.length) => show sm l k ≤ 1000 * k by
    induction k with
    | zero => simp [sm]
    | succ k ih =>
      have a := ih (by omega)
      have b := hs k (by omega)
      simp only [sm]; omega)
  have HS := hide hs
  clear ha hs
  go_enter Try.func30, Try.ntmps30
  go_wp2
  go_loop [3, 4] (fun v i => ∃ p : Nat, p ≤ l.length ∧ i = .int .i64 p ∧ v = .string (mkb (fb l 0 p))) (fun _ i => l.length - (intOf i).toNat)
  case atStart => exact ⟨0, by omega, rfl, rfl⟩
  case round =>
    obtain ⟨p, hp, rfl, rfl⟩ := hrel
    by_cases hlt : p < l.length
    · obtain ⟨b, o, rfl, hb0, c0⟩ := HA.out.at_ hlt
      have hsz := HS.out p hlt
      have ST := fb0_step l p
      have hsp : (mkb (fb l 0 p)).size ≤ 2000000 := by
        rw [mkb_size]
        rcases Nat.eq_zero_or_pos p with h | h
        · rw [h]; simp [fb]
        · obtain ⟨k, rfl⟩ : ∃ k, p = k + 1 := ⟨p - 1, by omega⟩
          have := HSm.out (k + 1) hp
          rw [fb0_len]; omega
      obtain ⟨s, hsd⟩ : ∃ s, s = sg l p := ⟨_, rfl⟩
      rw [← hsd] at c0 hsz ST
      clear hsd
      rcases Nat.eq_zero_or_pos p with h | h
      · rw [if_pos h, List.append_nil] at ST
        have M := hide (show mkb (fb l 0 p) ++ s = mkb (fb l 0 (p + 1)) by rw [ST, mkb_one])
        have g : ¬ (0 : Int) < (p : Int) := by omega
        obtain ⟨y, hy⟩ : ∃ y, y = mkb (fb l 0 p) := ⟨_, rfl⟩
        rw [← hy] at M hsp ⊢
        clear ST hy h
        go_wp2
        go_round
        case rel => exact ⟨p + 1, by omega, by go_num, by rw [M.out]⟩
        case measure => simp [intOf]; omega
      · rw [if_neg (by omega)] at ST
        have M := hide (show mkb (fb l 0 p) ++ (⟨#[32]⟩ : ByteArray) ++ s = mkb (fb l 0 (p + 1)) by rw [ST]; exact mkb_two _ [32] _)
        have g : (0 : Int) < (p : Int) := by omega
        obtain ⟨y, hy⟩ : ∃ y, y = mkb (fb l 0 p) := ⟨_, rfl⟩
        rw [← hy] at M hsp ⊢
        clear ST hy
        go_wp2
        go_round
        case rel => exact ⟨p + 1, by omega, by go_num, by rw [M.out]⟩
        case measure => simp [intOf]; omega
    · have E := hide (show p = l.length by omega)
      obtain ⟨y, hy⟩ : ∃ y, y = mkb (fb l 0 p) := ⟨_, rfl⟩
      rw [← hy]
      have M := hide (show y = mkb (fb l 0 l.length) by rw [hy, E.out])
      clear hy
      go_wp2
      go_ret
      exact ⟨str_ret M.out, rfl⟩
theorem sub_all (l : List ByteArray) : sub l 0 l.length = l := by simp [sub]
/-- All words in one line. -/
theorem one_line {l : List ByteArray} {wd : Int} (h : (wok l && inB wd 20 60) = true) (hn : 0 < l.length) (hf : ((fb l 0 l.length).length : Int) ≤ wd) : lc l wd = 0 ∧ wcO l wd [(l.length : Int)] = (0, true) := by
  obtain ⟨h1, h2, h3⟩ := ww_parts h
  have ok := cWo_ok h1 h2 h3
  have hr : 0 ≤ rs l wd 0 l.length := by
    unfold rs
    rw [sub_all]
    obtain ⟨k, hk⟩ : ∃ k, l.length = k + 1 := ⟨l.length - 1, by omega⟩
    have := fb0_len l k
    rw [hk] at hf ⊢
    omega
  have hc : cW l wd (0 : Nat) l.length = (0, true) := cW_last hn hr rfl
  have hv : cWo l wd 0 l.length = some 0 := by rw [cWo_yes (by rw [hc]), hc]
  have hm := bt_min ok cWo_mo hn (Nat.le_refl _) hv
  rw [bt_end] at hm
  have hp := lc_pos h
  have hv1 : ve [(l.length : Int)] l.length = true := ve_iff.2 ⟨fun j hj => by
    simp at hj
    subst hj
    show (0 : Int) < (l.length : Int)
    omega, rfl⟩
  refine ⟨by have : lc l wd ≤ 0 := (by unfold lc; simpa using hm); omega, ?_⟩
  rw [wcO_yes (by rw [h, hv1]; rfl)]
  have hk : okT 0 [(l.length : Int)] (fun _ f t => cW l wd f t) [(l.length : Int)].length := fun j hj => by
    simp at hj
    subst hj
    show (cW l wd 0 l.length).2 = true
    have : cW l wd 0 l.length = (0, true) := hc
    rw [this]
  rw [toO_yes hk]
  have : cW l wd 0 l.length = (0, true) := hc
  simp [sto, frm, ng, this]
end Go.Proofs.Ytlfhfbeacleggaa
