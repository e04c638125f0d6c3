/- Spaces spread evenly: a scan for runs of spaces, and the law's function at every input. -/
import Derived.Test.YtlfhfbeacleggaaFllP
namespace Go.Proofs.Ytlfhfbeacleggaa
open Go.ChangeShapes Go.WideShapes Go.ChangeAt Go.RowKit
set_option linter.unusedVariables false
open Classical

/-- One byte of a scan for runs of spaces: the shortest, the longest, the present run. -/
def scn (st : Int × Int × Nat) (c : UInt8) : Int × Int × Nat :=
  if c.toNat = 32 then (st.1, st.2.1, st.2.2 + 1) else if 0 < st.2.2 then (min st.1 (st.2.2 : Int), max st.2.1 (st.2.2 : Int), 0) else (st.1, st.2.1, 0)
theorem scn_spaces (lo hi : Int) (k n : Nat) : (List.replicate n (32 : UInt8)).foldl scn (lo, hi, k) = (lo, hi, k + n) := by
  induction n generalizing k with
  | zero => rfl
  | succ n ih =>
    rw [List.replicate_succ, List.foldl_cons]
    have : scn (lo, hi, k) 32 = (lo, hi, k + 1) := by simp [scn]
    rw [this, ih]
    congr 2; omega
theorem scn_word0 (lo hi : Int) (w : List UInt8) (h : ∀ c ∈ w, c.toNat ≠ 32) : w.foldl scn (lo, hi, 0) = (lo, hi, 0) := by
  induction w with
  | nil => rfl
  | cons c w ih =>
    rw [List.foldl_cons]
    have : scn (lo, hi, 0) c = (lo, hi, 0) := by simp [scn, h c (List.mem_cons_self ..)]
    rw [this, ih (fun d hd => h d (List.mem_cons_of_mem _ hd))]
theorem scn_word (lo hi : Int) (n : Nat) (hn : 0 < n) (w : List UInt8) (h : ∀ c ∈ w, c.toNat ≠ 32) (h0 : w ≠ []) : w.foldl scn (lo, hi, n) = (min lo (n : Int), max hi (n : Int), 0) := by
  cases w with
  | nil => exact absurd rfl h0
  | cons c w =>
    rw [List.foldl_cons]
    have : scn (lo, hi, n) c = (min lo (n : Int), max hi (n : Int), 0) := by simp [scn, h c (List.mem_cons_self ..), hn]
    rw [this, scn_word0 _ _ _ (fun d hd => h d (List.mem_cons_of_mem _ hd))]
theorem gp_two (r g k : Nat) (hg : 1 ≤ g) (hk : 1 ≤ k) : r / g ≤ r * k / g - r * (k - 1) / g ∧ r * k / g - r * (k - 1) / g ≤ r / g + 1 := by
  obtain ⟨m, rfl⟩ : ∃ m, k = m + 1 := ⟨k - 1, by omega⟩
  rw [Nat.add_sub_cancel, Nat.mul_succ]
  obtain ⟨a, ha⟩ : ∃ a, a = r * m := ⟨_, rfl⟩
  rw [← ha]
  have e1 := Nat.div_add_mod a g
  have e2 := Nat.div_add_mod r g
  have l1 := Nat.mod_lt a (show 0 < g by omega)
  have l2 := Nat.mod_lt r (show 0 < g by omega)
  have e3 : a + r = (a % g + r % g) + g * (a / g + r / g) := by rw [Nat.mul_add]; generalize g * (a / g) = p at *; generalize g * (r / g) = q at *; omega
  have e4 : (a + r) / g = (a % g + r % g) / g + (a / g + r / g) := by
    rw [e3, Nat.add_mul_div_left _ _ (by omega)]
  have l3 : (a % g + r % g) / g ≤ 1 := by
    have : (a % g + r % g) / g < 2 := Nat.div_lt_of_lt_mul (by omega)
    omega
  clear e1 e2 e3 l1 l2 ha
  generalize (a + r) / g = X at *
  generalize (a % g + r % g) / g = C at *
  generalize a / g = Y at *
  generalize r / g = Z at *
  omega

theorem no_sp {s : ByteArray} (h : okWord s = true) : ∀ c ∈ s.data.toList, c.toNat ≠ 32 := by
  intro c hc e
  unfold okWord at h
  rw [Bool.and_eq_true] at h
  have k := List.all_eq_true.1 h.2 c hc
  rw [e] at k
  exact absurd k (by decide)
theorem no_nil {s : ByteArray} (h : okWord s = true) : s.data.toList ≠ [] := by
  intro e
  have k := (okWord_iff.1 h).1.1
  have : s.data.toList.length = s.size := by simp
  rw [e] at this
  simp at this
  omega
theorem scn_fb {l : List ByteArray} {r q : Nat} {wd : Int} (hl : 2 ≤ l.length) (hw : WTo l l.length) (hq : q = r / (l.length - 1)) (hwd : (q : Int) + 1 ≤ wd) (k : Nat) (hk : k + 1 ≤ l.length) :
    ∃ lo hi : Int, (fb l r (k + 1)).foldl scn (wd, 0, 0) = (lo, hi, 0) ∧ (q : Int) + 1 ≤ lo ∧ lo ≤ wd ∧ 0 ≤ hi ∧ hi ≤ q + 2 := by
  induction k with
  | zero =>
    refine ⟨wd, 0, ?_, hwd, Int.le_refl _, Int.le_refl _, by omega⟩
    simp only [fb, if_true]
    rw [List.nil_append, List.nil_append]
    exact scn_word0 _ _ _ (no_sp (hw 0 (by omega)))
  | succ k ih =>
    obtain ⟨lo, hi, e, h1, h2, h3, h4⟩ := ih (by omega)
    have e' : fb l r (k + 1 + 1) = fb l r (k + 1) ++ (if k + 1 = 0 then [] else List.replicate (1 + gp r (l.length - 1) (k + 1)) 32) ++ (sg l (k + 1)).data.toList := rfl
    have g2 := gp_two r (l.length - 1) (k + 1) (by omega) (by omega)
    have hok := hw (k + 1) (by omega)
    obtain ⟨n, hn⟩ : ∃ n, n = 1 + gp r (l.length - 1) (k + 1) := ⟨_, rfl⟩
    have g3 : gp r (l.length - 1) (k + 1) = r * (k + 1) / (l.length - 1) - r * (k + 1 - 1) / (l.length - 1) := rfl
    rw [← hq, ← g3] at g2
    refine ⟨min lo (n : Int), max hi (n : Int), ?_, by omega, by omega, by omega, by omega⟩
    rw [e', if_neg (by omega), ← hn, List.foldl_append, List.foldl_append, e, scn_spaces, Nat.zero_add, scn_word _ _ _ (by omega) _ (no_sp hok) (no_nil hok)]
/-- The scan of the first p bytes. -/
def scp (t : ByteArray) (wd : Int) (p : Nat) : Int × Int × Nat := (t.data.toList.take p).foldl scn (wd, 0, 0)
theorem scp_step {t : ByteArray} {p : Nat} (wd : Int) (h : p < t.size) : scp t wd (p + 1) = scn (scp t wd p) t[p] := by
  have e : t.data.toList.length = t.size := by simp
  have k : t.data.toList.take (p + 1) = t.data.toList.take p ++ [t.data.toList[p]'(by omega)] := by rw [List.take_add_one, List.getElem?_eq_getElem (by omega)]; rfl
  unfold scp
  rw [k, List.foldl_append]
  rfl
theorem scp_all (t : ByteArray) (wd : Int) : scp t wd t.size = t.data.toList.foldl scn (wd, 0, 0) := by
  unfold scp
  rw [List.take_of_length_le (by simp)]
theorem scn_even {l : List ByteArray} {wd : Int} (h : ¬ (fll l wd).size = 0) (h1 : 1 < l.length) : ∃ lo hi : Int, scp (fll l wd) wd (fll l wd).size = (lo, hi, 0) ∧ 1 ≤ lo ∧ lo ≤ 60 ∧ 0 ≤ hi ∧ hi ≤ lo + 1 := by
  by_cases c : flO l wd
  · obtain ⟨k1, k2, k3, k4⟩ := c
    have e := fll_yes ⟨k1, k2, k3, k4⟩
    obtain ⟨r, hr⟩ : ∃ r : Nat, r = (wd - ((l.length - 1 + sm l l.length : Nat) : Int)).toNat := ⟨_, rfl⟩
    rw [← hr] at e
    obtain ⟨q, hq⟩ : ∃ q, q = r / (l.length - 1) := ⟨_, rfl⟩
    have hqr : q ≤ r := by rw [hq]; exact Nat.div_le_self _ _
    have hb : 20 ≤ wd ∧ wd ≤ 60 := by simpa [inB] using k2
    obtain ⟨lo, hi, a, b, d, f, g⟩ := scn_fb (l := l) (r := r) (q := q) (wd := wd) (by omega) (wok_iff.1 k1).1 hq (by omega) (l.length - 1) (by omega)
    rw [show l.length - 1 + 1 = l.length from by omega] at a
    refine ⟨lo, hi, ?_, by omega, by omega, f, by omega⟩
    rw [scp_all, e]
    exact a
  · rw [fll_no c] at h
    exact absurd rfl h
end Go.Proofs.Ytlfhfbeacleggaa
