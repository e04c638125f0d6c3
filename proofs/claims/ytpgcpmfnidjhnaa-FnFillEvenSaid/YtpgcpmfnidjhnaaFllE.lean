/- Spaces spread evenly: a scan for runs of spaces, and the law's function at every input. -/
import Derived.Test.YtpgcpmfnidjhnaaFllP
namespace Go.Proofs.Ytpgcpmfnidjhnaa
open Go.ChangeShapes Go.WideShapes Go.ChangeAt Go.RowKit
set_option linter.unusedVariables false
open Classical

/-- One byte of a scan for runs of spaces: the shortest, the longest, the present run. -/
def scn (st : Int × Int × Nat) (c : UInt8) : Int × Int × Nat :=
  if c.toNat = 32 then (st.1, st.2.1, st.2.2 + 1) else if 0 < st.2.2 then (min st.1 (st.2.2 : Int), max st.2.1 (st.2.2 : Int), 0) else (st.1, st.2.1, 0)
theorem scn_spaces (lo hi : Int) (k n : Nat) : (List.replicate n (32 : UInt8)).foldl scn (lo, hi, k) = (lo, hi, k + n) := by
  induction n generalizing k with
  | zero => rfl
  | succ n ih =>
    rw [List.replicate_succ, List.foldl_cons]
    have : scn (lo, hi, k) 32 = (lo, hi, k + 1) := by simp [scn]
    rw [this, ih]
    congr 2; omega
theorem scn_word0 (lo hi : Int) (w : List UInt8) (h : ∀ c ∈ w, c.toNat ≠ 32) : w.foldl scn (lo, hi, 0) = (lo, hi, 0) := by
  induction w with
  | nil => rfl
  | cons c w ih =>
    rw [List.foldl_cons]
    have : scn (lo, hi, 0) c = (lo, hi, 0) := by simp [scn, h c (List.mem_cons_self ..)]
    rw [this, ih (fun d hd => h d (List.mem_cons_of_mem _ hd))]
theorem scn_word (lo hi : Int) (n : Nat) (hn : 0 < n) (w : List UInt8) (h : ∀ c ∈ w, c.toNat ≠ 32) (h0 : w ≠ []) : w.foldl scn (lo, hi, n) = (min lo (n : Int), max hi (n : Int), 0) := by
  cases w with
  | nil => exact absurd rfl h0
  | cons c w =>
    rw [List.foldl_cons]
    have : scn (lo, hi, n) c = (min lo (n : Int), max hi (n : Int), 0) := by simp [scn, h c (List.mem_cons_self ..), hn]
    rw [this, scn_word0 _ _ _ (fun d hd => h d (List.mem_cons_of_mem _ hd))]
theorem gp_two (r g k : Nat) (hg : 1 ≤ g) (hk : 1 ≤ k) : r / g ≤ r * k / g - r * (k - 1) / g ∧ r * k / g - r * (k - 1) / g ≤ r / g + 1 := by
  obtain ⟨m, rfl⟩ : ∃ m, k = m + 1 := ⟨k - 1, by omega⟩
  rw [Nat.add_sub_cancel, Nat.mul_succ]
  obtain ⟨a, ha⟩ : ∃ a, a = r * m := ⟨_, rfl⟩
  rw [← ha]
  have e1 := Nat.div_add_mod a g
  have e2 := Nat.div_add_mod r g
  have l1 := Nat.mod_lt a (show 0 < g by omega)
  have l2 := Nat.mod_lt r (show 0 < g by omega)
  have e3 : a + r = (a % g + r % g) + g * (a / g + r / g) := by rw [Nat.mul_add]; generalize g * (a / g) = p at *; generalize g * (r / g) = q at *; omega
  have e4 : (a + r) / g = (a % g + r % g) / g + (a / g + r / g) := by
    rw [e3, Nat.add_mul_div_left _ _ (by omega)]
  have l3 : (a % g + r % g) / g ≤ 1 := by
    have : (a % g + r % g) / g < 2 := Nat.div_lt_of_lt_mul (by omega)
    omega
  clear e1 e2 e3 l1 l2 ha
  generalize (a + r) / g = X at *
  generalize (a % g + r % g) / g = C at *
  generalize a / g = Y at *
  generalize r / g = Z at *
  omega

theorem no_sp {s : ByteArray} (h : okWord s = true) : ∀ c ∈ s.data.toList, c.toNat ≠ 32 := by
  intro c hc e
  unfold okWord at h
  rw [Bool.and_eq_true] at h
  have k := List.all_eq_true.1 h.2 c hc
  rw [e] at k
  exact absurd k (by decide)
theorem no_nil {s : ByteArray} (h : okWord s = true) : s.data.toList ≠ [] := by
  intro e
  have k := (okWord_iff.1 h).1.1
  have : s.data.toList.length = s.size := by simp
  rw [e] at this
  simp at this
  omega
theorem scn_fb {l : List ByteArray} {r q : Nat} {wd : Int} (hl : 2 ≤ l.length) (hw : WTo l l.length) (hq : q = r / (l.length - 1)) (hwd : (q : Int) + 1 ≤ wd) (k : Nat) (hk : k + 1 ≤ l.length) :
    ∃ lo hi : Int, (fb l r (k + 1)).foldl scn (wd, 0, 0) = (lo, hi, 0) ∧ (q : Int) + 1 ≤ lo ∧ lo ≤ wd ∧ 0 ≤ hi ∧ hi ≤ q + 2 := by
  induction k with
  | zero =>
    refine ⟨wd, 0, ?_, hwd, Int.le_refl _, Int.le_refl _, by omega⟩
    simp only [fb, if_true]
    rw [List.nil_append, List.nil_append]
    exact scn_word0 _ _ _ (no_sp (hw 0 (by omega)))
  | succ k ih =>
    obtain ⟨lo, hi, e, h1, h2, h3, h4⟩ := ih (by omega)
    have e' : fb l r (k + 1 + 1) = fb l r (k + 1) ++ (if k + 1 = 0 then [] else List.replicate (1 + gp r (l.length - 1) (k + 1)) 32) ++ (sg l (k + 1)).data.toList := rfl
    have g2 := gp_two r (l.length - 1) (k + 1) (by omega) (by omega)
    have hok := hw (k + 1) (by omega)
    obtain ⟨n, hn⟩ : ∃ n, n = 1 + gp r (l.length - 1) (k + 1) := ⟨_, rfl⟩
    have g3 : gp r (l.length - 1) (k + 1) = r * (k + 1) / (l.length - 1) - r * (k + 1 - 1) / (l.length - 1) := rfl
    rw [← hq, ← g3] at g2
    refine ⟨min lo (n : Int), max hi (n : Int), ?_, by omega, by omega, by omega, by omega⟩
    rw [e', if_neg (by omega), ← hn, List.foldl_append, List.foldl_append, e, scn_spaces, Nat.zero_add, scn_word _ _ _ (by omega) _ (no_sp hok) (no_nil hok)]
/-- The scan of the first p bytes. -/
def scp (t : ByteArray) (wd : Int) (p : Nat) : Int × Int × Nat := (t.data.toList.take p).foldl scn (wd, 0, 0)
theorem scp_step {t : ByteArray} {p : Nat} (wd : Int) (h : p < t.size) : scp t wd (p + 1) = scn (scp t wd p) t[p] := by
  have e : t.data.toList.length = t.size := by simp
  have k : t.data.toList.take (p + 1) = t.data.toList.take p ++ [t.data.toList[p]'(by omega)] := by rw [List.take_add_one, List.getElem?_eq_getElem (by omega)]; rfl
  unfold scp
  rw [k, List.foldl_append]
  rfl
theorem scp_all (t : ByteArray) (wd : Int) : scp t wd t.size = t.data.toList.foldl scn (wd, 0, 0) := by
  unfold scp
  rw [List.take_of_length_le (by simp)]
theorem scn_even {l : List ByteArray} {wd : Int} (h : ¬ (fll l wd).size = 0) (h1 : 1 < l.length) : ∃ lo hi : Int, scp (fll l wd) wd (fll l wd).size = (lo, hi, 0) ∧ 1 ≤ lo ∧ lo ≤ 60 ∧ 0 ≤ hi ∧ hi ≤ lo + 1 := by
  by_cases c : flO l wd
  · obtain ⟨k1, k2, k3, k4⟩ := c
    have e := fll_yes ⟨k1, k2, k3, k4⟩
    obtain ⟨r, hr⟩ : ∃ r : Nat, r = (wd - ((l.length - 1 + sm l l.length : Nat) : Int)).toNat := ⟨_, rfl⟩
    rw [← hr] at e
    obtain ⟨q, hq⟩ : ∃ q, q = r / (l.length - 1) := ⟨_, rfl⟩
    have hqr : q ≤ r := by rw [hq]; exact Nat.div_le_self _ _
    have hb : 20 ≤ wd ∧ wd ≤ 60 := by simpa [inB] using k2
    obtain ⟨lo, hi, a, b, d, f, g⟩ := scn_fb (l := l) (r := r) (q := q) (wd := wd) (by omega) (wok_iff.1 k1).1 hq (by omega) (l.length - 1) (by omega)
    rw [show l.length - 1 + 1 = l.length from by omega] at a
    refine ⟨lo, hi, ?_, by omega, by omega, f, by omega⟩
    rw [scp_all, e]
    exact a
  · rw [fll_no c] at h
    exact absurd rfl h
set_option maxRecDepth 8000 in
set_option maxHeartbeats 4000000 in
theorem walk_FnFillEven (a : Option Addr) (n c : Nat) (zs : List Int) (w : World) (hr : IsRow .u8 w a n c zs) :
    Calls Try.prog 15 #[.slice a n c] w fun e w' => e = .returned (.bool true) ∧ Below w.heap.size w w' := by
  have hm := small_rowf hr
  unfold maxLen at hm
  rcases (by omega : 1048576 < n ∨ n ≤ 1048576) with hn | hn
  · go_enter Try.func15, Try.ntmps15
    go_wp2
    go_ret
    exact ⟨rfl, bl_refl _⟩
  go_enter Try.func15, Try.ntmps15
  go_wp2_with fail
  (with_reducible refine (DrawFillLine_any _ _ _ _ _ hr).mono ?_)
  rintro e u0 ⟨A, cc, l, wd, rfl, hol, hll, hwq, ⟨wd0, wd1⟩, hb⟩
  clear hr
  have R := hide hol.reads
  have HSZ := hide (fun k (hk : k < l.length) => show (sg l k).size ≤ 1048576 by have := hwq k hk; omega)
  have HWQ := hide hwq
  have HB := hide hb
  clear hol hb hwq
  have CI := hide (fun (V : World) (h : SL V A l.length l) => FillLine_i V A l.length cc wd l h HSZ.out (by omega))
  have CS := hide (fun (V : World) (h : SL V A l.length l) => FillLine_s V A l.length cc wd l h HSZ.out (by omega))
  have OKL := hide (fun h => fl_ok (l := l) (wd := wd) h)
  have OK := hide (fun h => fun h1 => scn_even (l := l) (wd := wd) h h1)
  obtain ⟨t, ht⟩ : ∃ t, t = fll l wd := ⟨_, rfl⟩
  rw [← ht] at CI CS OK OKL
  clear ht
  have tt := teq_yes t
  have tt' : (t.toList != t.toList) = false := by simp
  rcases (by omega : l.length < 2 ∨ 2 ≤ l.length) with hl2 | hl2
  · have g2 : decide ((l.length : Int) < 2) = true := decide_eq_true (by omega)
    clear OK OKL
    go_wp2_with fail
    (with_reducible refine (CI.out _ R.out).mono ?_)
    rintro e u1 ⟨rfl, hb1⟩
    have R1 := hide (R.out.below hb1)
    have HB1 := hide (bl_call hb1 HB.out)
    clear hb1
    go_wp2_with fail
    (with_reducible refine (CS.out _ R1.out).mono ?_)
    rintro e u2 ⟨rfl, j2, rfl⟩
    go_wp2_with fail
    (with_reducible refine (CS.out _ (R1.out.drewN j2)).mono ?_)
    rintro e u3 ⟨rfl, j3, rfl⟩
    go_wp2
    go_ret
    exact ⟨bool_ret (by first | rfl | simp), bl_drewN HB1.out _⟩
  have g2 : decide ((l.length : Int) < 2) = false := decide_eq_false (by omega)
  rcases Nat.eq_zero_or_pos t.size with h0 | h0
  · have q1 : t.toList = [] := by rw [Lib.toList_data]; exact List.eq_nil_of_length_eq_zero (by rw [← Lib.size_eq]; exact h0)
    have q1' : t.toList.isEmpty = true := by rw [q1]; rfl
    clear h0 OK OKL
    go_wp2_with fail
    (with_reducible refine (CI.out _ R.out).mono ?_)
    rintro e u1 ⟨rfl, hb1⟩
    have R1 := hide (R.out.below hb1)
    have HB1 := hide (bl_call hb1 HB.out)
    clear hb1
    go_wp2_with fail
    (with_reducible refine (CS.out _ R1.out).mono ?_)
    rintro e u2 ⟨rfl, j2, rfl⟩
    go_wp2_with fail
    (with_reducible refine (CS.out _ (R1.out.drewN j2)).mono ?_)
    rintro e u3 ⟨rfl, j3, rfl⟩
    go_wp2
    go_ret
    exact ⟨bool_ret (by first | rfl | simp), bl_drewN HB1.out _⟩
  · have q1 : ¬ t.toList = [] := fun q => by
      rw [Lib.toList_data] at q
      have : t.size = 0 := by rw [Lib.size_eq, q]; rfl
      omega
    have q1' : t.toList.isEmpty = false := by rw [Bool.eq_false_iff]; intro h; exact q1 (by simpa using h)
    have K := hide (OK.out (by omega) (by omega))
    have TS := hide (show t.size ≤ 1000000 from by have := (OKL.out (by omega)).more (by omega); omega)
    clear OK OKL
    go_wp2_with fail
    (with_reducible refine (CI.out _ R.out).mono ?_)
    rintro e u1 ⟨rfl, hb1⟩
    have R1 := hide (R.out.below hb1)
    have HB1 := hide (bl_call hb1 HB.out)
    clear hb1
    go_wp2_with fail
    (with_reducible refine (CS.out _ R1.out).mono ?_)
    rintro e u2 ⟨rfl, j2, rfl⟩
    obtain ⟨V, hV⟩ : ∃ V, V = u1.drewN j2 := ⟨_, rfl⟩
    have HB2 := hide (show Below w.heap.size w V by rw [hV]; exact bl_drewN HB1.out j2)
    rw [← hV]
    clear hV
    go_wp2
    go_loop [6, 7, 8, 9] (fun x y z i => ∃ (p m : Nat) (a b : Int), p ≤ t.size ∧ m ≤ p ∧ scp t wd p = (a, b, m) ∧ x = .int .i64 a ∧ y = .int .i64 b ∧ z = .int .i64 m ∧ i = .int .i64 p) (fun _ _ _ i => t.size - (intOf i).toNat)
    case atStart => exact ⟨0, 0, wd, 0, by omega, by omega, rfl, rfl, rfl, rfl, rfl⟩
    case round =>
      obtain ⟨p, m, a, b, hp, hmp, hsc, rfl, rfl, rfl, rfl⟩ := hrel
      have ts1 := TS.out
      by_cases hlt : p < t.size
      · have ST := hide (show scp t wd (p + 1) = scn (a, b, m) t[p] by rw [scp_step wd hlt, hsc])
        have hb : t[p].toNat < 256 := UInt8.toNat_lt _
        clear hsc
        rcases (by omega : (t[p].toNat : Int) = 32 ∨ ¬ (t[p].toNat : Int) = 32) with h32 | h32
        · have N := hide (show scp t wd (p + 1) = (a, b, m + 1) by rw [ST.out]; unfold scn; rw [if_pos (by omega)])
          have hq : ((t[p].toNat : Int) == 32) = true := beq_iff_eq.2 h32
          clear ST
          go_wp2
          go_round
          case rel => exact ⟨p + 1, m + 1, a, b, by omega, by omega, N.out, rfl, rfl, by go_num, by go_num⟩
          case measure => simp [intOf]; omega
        · have hq : ((t[p].toNat : Int) == 32) = false := beq_eq_false_iff_ne.2 h32
          rcases Nat.eq_zero_or_pos m with hm0 | hm0
          · subst hm0
            have N := hide (show scp t wd (p + 1) = (a, b, 0) by rw [ST.out]; unfold scn; rw [if_neg (by omega), if_neg (by simp)])
            clear ST
            go_wp2
            go_round
            case rel => exact ⟨p + 1, 0, a, b, by omega, by omega, N.out, rfl, rfl, rfl, by go_num⟩
            case measure => simp [intOf]; omega
          · have N := hide (show scp t wd (p + 1) = (min a (m : Int), max b (m : Int), 0) by rw [ST.out]; unfold scn; rw [if_neg (by omega), if_pos hm0])
            clear ST
            have hm1 : (0 : Int) < (m : Int) := by omega
            go_wp2
            go_round
            case rel => exact ⟨p + 1, 0, min a (m : Int), max b (m : Int), by omega, by omega, N.out, rfl, rfl, rfl, by go_num⟩
            case measure => simp [intOf]; omega
      · have hpe : p = t.size := by omega
        rw [hpe] at hsc
        obtain ⟨lo, hi, f1, f2, f3, f4, f5⟩ := K.out
        rw [f1] at hsc
        injection hsc with q1 hsc
        injection hsc with q2 q3
        subst q1 q2
        clear f1 q3
        have d1 : decide ((1 : Int) ≤ lo) = true := decide_eq_true f2
        have d2 : decide (hi - lo ≤ 1) = true := decide_eq_true (by omega)
        go_wp2
        go_ret
        exact ⟨bool_ret (by first | rfl | simp), HB2.out⟩
end Go.Proofs.Ytpgcpmfnidjhnaa
