/- The law on filled lines holds at every input. No condition. -/
import Derived.Test.YtlfhfbeacleggaaJn
import Derived.Test.YtlfhfbeacleggaaFll
import Derived.Test.YtlfhfbeacleggaaDrawW
import Derived.BigQuiet
namespace Go.Proofs.Ytlfhfbeacleggaa
open Go.ChangeShapes Go.WideShapes Go.ChangeAt Go.RowKit
set_option linter.unusedVariables false
open Classical

theorem small_rowf {w : World} {a : Option Addr} {n c : Nat} {zs : List Int} (h : IsRow .u8 w a n c zs) : n ≤ maxLen := by
  rcases h with ⟨_, rfl, _, _⟩ | ⟨_, _, hl, hm, _⟩
  · exact Nat.zero_le _
  · omega
theorem fb_len_eq {l : List ByteArray} {r k : Nat} (hk : k ≤ l.length - 1) : (fb l r (k + 1)).length = sm l (k + 1) + k + r * k / (l.length - 1) := by
  induction k with
  | zero => simp [fb, sm]
  | succ k ih =>
    have a := ih (by omega)
    have e : fb l r (k + 1 + 1) = fb l r (k + 1) ++ (if k + 1 = 0 then [] else List.replicate (1 + gp r (l.length - 1) (k + 1)) 32) ++ (sg l (k + 1)).data.toList := rfl
    have b : sm l (k + 1 + 1) = sm l (k + 1) + (sg l (k + 1)).size := rfl
    have d : (sg l (k + 1)).data.toList.length = (sg l (k + 1)).size := by simp
    have m : r * k / (l.length - 1) ≤ r * (k + 1) / (l.length - 1) := Nat.div_le_div_right (Nat.mul_le_mul_left _ (by omega))
    have g : gp r (l.length - 1) (k + 1) = r * (k + 1) / (l.length - 1) - r * k / (l.length - 1) := by simp [gp]
    rw [e, if_neg (by omega), List.length_append, List.length_append, List.length_replicate, a, b, d, g]
    omega
theorem fb_head (l : List ByteArray) (r k : Nat) : ∃ t, fb l r (k + 1) = (sg l 0).data.toList ++ t := by
  induction k with
  | zero => exact ⟨[], by simp [fb]⟩
  | succ k ih =>
    obtain ⟨t, ht⟩ := ih
    have e : fb l r (k + 1 + 1) = fb l r (k + 1) ++ (if k + 1 = 0 then [] else List.replicate (1 + gp r (l.length - 1) (k + 1)) 32) ++ (sg l (k + 1)).data.toList := rfl
    rw [e, ht, List.append_assoc, List.append_assoc]
    exact ⟨_, rfl⟩
theorem fb_tail (l : List ByteArray) (r k : Nat) : ∃ t, fb l r (k + 1) = t ++ (sg l k).data.toList := ⟨_, rfl⟩
theorem cut_head (a : ByteArray) (t : List UInt8) : ((mkb (a.data.toList ++ t)).extract 0 a.size).toList = a.toList := by
  have d : a.data.toList.length = a.size := by simp
  rw [Lib.toList_data, Lib.toList_data, Lib.extract_data]
  simp only [mkb, List.toList_toArray, List.drop_zero, Nat.sub_zero]
  rw [← d, List.take_left]
theorem cut_tail (a : ByteArray) (t : List UInt8) (d : Nat) (hd : (mkb (t ++ a.data.toList)).size = d + a.size) : ((mkb (t ++ a.data.toList)).extract d (mkb (t ++ a.data.toList)).size).toList = a.toList := by
  have e : a.data.toList.length = a.size := by simp
  have s : (mkb (t ++ a.data.toList)).size = t.length + a.size := by rw [mkb_size, List.length_append, e]
  have h : d = t.length := by omega
  subst h
  rw [Lib.toList_data, Lib.toList_data, Lib.extract_data, s]
  simp only [mkb, List.toList_toArray]
  rw [List.drop_left, List.take_of_length_le (by omega)]
/-- What is known of a line that was filled. -/
structure FlOk (l : List ByteArray) (wd : Int) (t : ByteArray) : Prop where
  len0 : 1 ≤ l.length
  head : ((t.extract 0 (sg l 0).size).toList) = (sg l 0).toList
  headle : (sg l 0).size ≤ t.size
  tail : ∀ d, t.size = d + (sg l (l.length - 1)).size → ((t.extract d t.size).toList) = (sg l (l.length - 1)).toList
  taille : (sg l (l.length - 1)).size ≤ t.size
  one : l.length = 1 → t = sg l 0
  more : 1 < l.length → (t.size : Int) = wd
theorem fl_ok {l : List ByteArray} {wd : Int} (h : ¬ (fll l wd).size = 0) : FlOk l wd (fll l wd) := by
  by_cases c : flO l wd
  · obtain ⟨h1, h2, h3, h4⟩ := c
    obtain ⟨r, hr⟩ : ∃ r : Nat, r = (wd - ((l.length - 1 + sm l l.length : Nat) : Int)).toNat := ⟨_, rfl⟩
    have e := fll_yes ⟨h1, h2, h3, h4⟩
    rw [← hr] at e
    obtain ⟨g, hg⟩ : ∃ g, l.length = g + 1 := ⟨l.length - 1, by omega⟩
    have g1 : l.length - 1 = g := by omega
    rw [hg] at e
    obtain ⟨t, ht⟩ := fb_head l r g
    obtain ⟨s, hs⟩ := fb_tail l r g
    have z1 : (sg l 0).data.toList.length = (sg l 0).size := by simp
    have z2 : (sg l g).data.toList.length = (sg l g).size := by simp
    refine ⟨h3, ?_, ?_, ?_, ?_, ?_, ?_⟩
    · rw [e, ht]; exact cut_head _ _
    · rw [e, ht, mkb_size, List.length_append, z1]; omega
    · rw [g1, e, hs]; exact fun d hd => cut_tail _ _ d hd
    · rw [g1, e, hs, mkb_size, List.length_append, z2]; omega
    · intro h5
      have : g = 0 := by omega
      subst this
      rw [e]
      simp only [fb, if_true]
      rw [List.nil_append, List.nil_append, mkb_data]
    · intro h5
      have k := fb_len_eq (l := l) (r := r) (k := g) (by omega)
      rw [g1, Nat.mul_div_cancel _ (by omega)] at k
      rw [e, mkb_size, k]
      rw [g1, hg] at hr h4
      omega
  · rw [fll_no c] at h
    exact absurd rfl h
end Go.Proofs.Ytlfhfbeacleggaa
