/- The law on trimmed rows holds at every input. No condition. -/
import Derived.Test.YtpgcpmfnidjhnaaDoorTrX
import Derived.Test.YtpgcpmfnidjhnaaDoorDrawI
import Derived.Test.YtpgcpmfnidjhnaaDoorDrawS
import Derived.BigQuiet
namespace Go.Proofs.YtpgcpmfnidjhnaaDoor
open Go.ChangeShapes Go.WideShapes Go.ChangeAt Go.RowKit
set_option linter.unusedVariables false
open Classical

theorem small_rowt {w : World} {a : Option Addr} {n c : Nat} {zs : List Int} (h : IsRow .u8 w a n c zs) : n ≤ maxLen := by
  rcases h with ⟨_, rfl, _, _⟩ | ⟨_, _, hl, hm, _⟩
  · exact Nat.zero_le _
  · omega
theorem tn_last {s : ByteArray} {n m : Nat} (h : tn s n = m + 1) : (s.data.toList.getD m 0).toNat ≠ 32 := by
  induction n with
  | zero => simp [tn] at h
  | succ n ih =>
    simp only [tn] at h
    split at h
    · exact ih h
    · have : n = m := by omega
      subst this
      assumption
theorem tr_last {s : ByteArray} {m : Nat} (h : (tr s).size = m + 1) (hm : m < (tr s).size) : ((tr s)[m].toNat : Int) ≠ 32 := by
  have hn := tn_le s s.size
  rw [tr_size] at h
  have k := tn_last h
  have hms : m < s.size := by omega
  rw [byte_get hms] at k
  have e : (tr s)[m] = s[m] := ext_get hn (by omega) hm
  rw [e]
  omega
theorem tr_tr (s : ByteArray) : tr (tr s) = tr s := by
  rcases Nat.eq_zero_or_pos (tr s).size with h0 | h0
  · exact tr_empty h0
  · obtain ⟨m, hm⟩ : ∃ m, (tr s).size = m + 1 := ⟨(tr s).size - 1, by omega⟩
    have h1 := tr_last hm (by omega)
    have e : tn (tr s) (tr s).size = m + 1 := by rw [hm]; exact tn_no (by omega) h1
    rw [tr.eq_1 (tr s), e, ← hm, ext_all]
theorem okX_tr {s : ByteArray} (h : okX s = true) : okX (tr s) = true := by
  obtain ⟨h1, h2⟩ := okX_iff.1 h
  have hle := tr_le s
  refine okX_iff.2 ⟨by omega, fun j hj _ => ?_⟩
  have e : (tr s)[j] = s[j]'(by omega) := ext_get (tn_le s s.size) (by rw [tr_size] at hj; omega) hj
  rw [e]
  exact h2 j (by omega) (by omega)
/-- What is known of trimmed rows that are not all empty. -/
structure TrOk (l L : List ByteArray) : Prop where
  le : L.length ≤ l.length
  le60 : l.length ≤ 60
  at_ : ∀ i, i < L.length → sg L i = tr (sg l i)
  last : ∀ m, L.length = m + 1 → sg L m ≠ ByteArray.empty
  idem : trR L = L
theorem tr_ok {l : List ByteArray} (h : (trR l).length ≠ 0) : TrOk l (trR l) := by
  by_cases hc : l.length ≤ 60 ∧ RTo l l.length
  · have e := trR_yes hc.1 hc.2
    have hu := used_le l l.length
    have hlen : (trR l).length = used l l.length := by rw [e]; exact mtake_len hu
    have hat : ∀ i, i < (trR l).length → sg (trR l) i = tr (sg l i) := fun i hi => by
      rw [e, sg_take (by omega), sg_tr (by omega)]
    have hlast : ∀ m, (trR l).length = m + 1 → sg (trR l) m ≠ ByteArray.empty := fun m hm he => by
      rw [hat m (by omega)] at he
      have := used_back (l := l) (m := m) (by omega) (by omega) he
      omega
    refine ⟨by omega, hc.1, hat, hlast, ?_⟩
    have hmap : (trR l).map tr = trR l := by
      refine List.ext_getElem (by simp) fun j h1 h2 => ?_
      rw [List.getElem_map, ← sg_lt h2, hat j h2, tr_tr]
    have hR : RTo (trR l) (trR l).length := fun j hj => by
      rw [hat j hj]
      exact okX_tr (hc.2 j (by omega))
    obtain ⟨m, hm⟩ : ∃ m, (trR l).length = m + 1 := ⟨(trR l).length - 1, by omega⟩
    have hne : tr (sg (trR l) m) ≠ ByteArray.empty := by
      rw [hat m (by omega), tr_tr, ← hat m (by omega)]
      exact hlast m hm
    rw [trR_yes (by omega) hR, hmap, hm, used_yes hne, ← hm, List.take_length]
  · exact absurd (by rw [trR, if_neg hc]; rfl) h
theorem OS.readT {w w' : World} {B g c : Nat} {e : TypeId} {A : Option Addr} {l : List ByteArray} (h : OS w e B A c l) (hg : w.grownBy w' (some g)) (hlt : g < B) : OS w' e B A c l :=
  h.kept hg (fun k hk e => by
    have := (h.own_lt k hk).1
    injection e with e
    omega)
/-- Short rows. -/
def TQ (l : List ByteArray) : Prop := ∀ k, k < l.length → (sg l k).size ≤ 10
theorem TQ.nil : TQ [] := fun k hk => by simp at hk
theorem TQ.snoc {l : List ByteArray} {z : ByteArray} (h : TQ l) (hz : z.size ≤ 10) : TQ (l ++ [z]) := fun k hk => sg_snoc (P := fun x => x.size ≤ 10) hz h k hk
set_option maxRecDepth 4000 in
set_option maxHeartbeats 4000000 in
theorem DrawTrimRows_any (w : World) (a : Option Addr) (n c : Nat) (zs : List Int) (h : IsRow .u8 w a n c zs) :
    Calls Tryd.prog 12 #[.slice a n c] w fun e w' => ∃ (A : Option Addr) (c : Nat) (l : List ByteArray), e = .returned (.slice A l.length c) ∧ OS w' 9 w.heap.size A c l ∧ l.length ≤ 7 ∧ TQ l ∧ Below w.heap.size w w' := by
  obtain ⟨i0, hi0, jz0, jz1, jz2⟩ := info_parts str_info
  have hcv := conv_new
  go_enter Tryd.func12, Tryd.ntmps12
  go_wp2_with fail
  (with_reducible refine (newReader_any _ _ _ _ _ h).mono ?_)
  rintro e u0 ⟨rfl, hrd, hb⟩
  have hgl : w.heap.size < u0.heap.size := hrd.lt
  have H0 : Hid (OS (u0.alloc (.cells #[] 9)) 9 u0.heap.size (some ⟨u0.heap.size, 0, none⟩) 0 []) := hide (by
    have := OS.lit (w := u0) (e := 9) (B := u0.heap.size) (Nat.le_refl _) [] (by simp)
    simpa using this)
  go_wp2_with fail
  (with_reducible refine (pick_any _ _ _ _ _ (RD.alloc hrd _) (by omega) (by omega) (by omega)).mono ?_)
  rintro e u1 ⟨r, hr0, hr1, rfl, hrd1, hon1⟩
  have H1 := hide (H0.out.readT hon1 hgl)
  have O1 := hide (on_call hon1 (on_alloc (on_refl u0 (some w.heap.size)) _))
  have hz1 := hon1.size
  simp at hz1
  have HB := hide hb
  clear hon1 hrd H0 hb h
  go_wp2
  go_loopw [4, 5] (fun v i u => ∃ (q m : Nat) (A : Option Addr) (cc : Nat) (l : List ByteArray), q + m ≤ 6 ∧ i = .int .i64 m ∧ v = .slice A q cc ∧ q = l.length ∧ TQ l ∧ OS u 9 u0.heap.size A cc l ∧ RD u (w.heap.size + 1) w.heap.size (20 - 2 * m) ∧ u0.grownBy u (some w.heap.size)) (fun _ i _ => (intOf i).toNat)
  case atStart => exact ⟨0, r.toNat, _, _, [], by omega, by go_num, rfl, rfl, TQ.nil, H1.out, hrd1.more (by omega) (Nat.le_refl _) (by omega), O1.out⟩
  case round =>
    obtain ⟨q, m, A, cc, l, hqm, rfl, rfl, hpl, htq, hol, hrd, hon⟩ := hrel
    have HPL := hide hpl
    have HTQ := hide htq
    clear hpl htq
    have hzr := hon.size
    rcases Nat.eq_zero_or_pos m with hm | hm
    · subst hm
      go_wp2_with fail
      (with_reducible refine (pick_any _ _ _ _ _ hrd (by omega) (by omega) (by omega)).mono ?_)
      rintro e u2 ⟨s, hs0, hs1, rfl, hrd2, hon2⟩
      have hol2 := hol.readT hon2 hgl
      have O2 := hide (on_call hon2 hon)
      have hz2 := hon2.size
      clear hol hon hon2 hrd
      rcases (by omega : s = 0 ∨ s ≠ 0) with rfl | hs
      · have HO2 := hide hol2
        clear hol2
        go_wp2_with (at_builtin; refine wpList_append_str rfl (.tmp 24) (.tmp 27) _ rfl 9 i0 Tryd.underlying22 hi0 jz0 jz1 jz2 u0.heap.size A cc q l rfl HPL.out ((HO2.out.alloc _).alloc _) (u2.heap.size + 1) (one 9) rfl (by simp) (by omega) (by simp; omega) ?_; intro A' c' w' hol' hb' hg')
        have hzb := hb'.size
        simp at hzb
        have HO3 := hide hol'
        have O3 := hide (on_below' hb' (Nat.le_refl _) (on_alloc (on_alloc O2.out _) _))
        clear hol' hb' hg'
        go_wp2
        go_ret
        exact ⟨A', c', l ++ [one 9], by rw [List.length_append, ← HPL.out]; rfl, HO3.out.more HB.out.size, by rw [List.length_append, ← HPL.out]; simp; omega, HTQ.out.snoc (by decide), on_new (on_call O3.out (on_below HB.out (on_refl w (some w.heap.size)))) (Nat.le_refl _)⟩
      · have hs' : (s == 0) = false := beq_eq_false_iff_ne.2 hs
        go_wp2
        go_ret
        exact ⟨A, cc, l, by rw [← HPL.out]; rfl, hol2.more HB.out.size, by rw [← HPL.out]; omega, HTQ.out, on_new (on_call O2.out (on_below HB.out (on_refl w (some w.heap.size)))) (Nat.le_refl _)⟩
    · go_wp2_with fail
      refine (of_any _ _ _ _ _ _ (fun z => z.size ≤ 10) (RD.alloc hrd _) (by omega) (by exact heap_alloc_new _ _) (by omega) (by rfl) (by decide) (by intro v hv; simp at hv; rcases hv with rfl | rfl | rfl | rfl | rfl | rfl <;> exact ⟨_, rfl, by decide⟩)).mono ?_
      rintro e u2 ⟨s, hs, rfl, hrd2, hon2⟩
      have hol2 := (hol.alloc _).readT hon2 hgl
      have O2 := hide (on_call hon2 (on_alloc hon _))
      have hz2 := hon2.size
      simp at hz2
      clear hol hon hon2 hrd
      go_wp2_with (at_builtin; refine wpList_append_str rfl (.tmp 15) (.tmp 19) _ rfl 9 i0 Tryd.underlying22 hi0 jz0 jz1 jz2 u0.heap.size A cc q l rfl HPL.out (hol2.alloc _) u2.heap.size s rfl (by simp) (by omega) (by simp; omega) ?_; intro A' c' w' hol' hb' hg')
      go_roundw
      case rel => exact ⟨q + 1, m - 1, A', c', l ++ [s], by omega, by go_num, rfl, by simp [HPL.out], HTQ.out.snoc hs, hol', ((hrd2.alloc _).below' hb' (by omega)).more (by omega) (Nat.le_refl _) (by have := hb'.size; simp at this; omega), on_below' hb' (Nat.le_refl _) (on_alloc O2.out _)⟩
      case measure => simp [intOf]; omega
theorem OS.frozen' {w : World} {e : TypeId} {B : Nat} {A : Option Addr} {c : Nat} {l : List ByteArray} (h : OS w e B A c l) : True := trivial
theorem toL_ne {t : ByteArray} (h : t ≠ ByteArray.empty) : ¬ t.toList = [] := fun q => h (ByteArray.ext (Array.eq_empty_of_size_eq_zero (nil_iff.1 q)))
set_option maxRecDepth 8000 in
set_option maxHeartbeats 4000000 in
theorem walk_FnTrimRows (a : Option Addr) (n c : Nat) (zs : List Int) (w : World) (hr : IsRow .u8 w a n c zs) :
    Calls Tryd.prog 4 #[.slice a n c] w fun e w' => e = .returned (.bool true) ∧ Below w.heap.size w w' := by
  have hm := small_rowt hr
  unfold maxLen at hm
  rcases (by omega : 1048576 < n ∨ n ≤ 1048576) with hn | hn
  · go_enter Tryd.func4, Tryd.ntmps4
    go_wp2
    go_ret
    exact ⟨rfl, bl_refl _⟩
  go_enter Tryd.func4, Tryd.ntmps4
  go_wp2_with fail
  (with_reducible refine (DrawTrimRows_any _ _ _ _ _ hr).mono ?_)
  rintro e u0 ⟨A, cc, l, rfl, hol, hll, htq, hb⟩
  clear hr
  have R := hide hol.reads
  have HSZ := hide (fun k (hk : k < l.length) => show (sg l k).size ≤ 1048576 by have := htq k hk; omega)
  have TQh := hide htq
  have HB := hide hb
  clear hol hb htq
  have CI := hide (fun (V : World) (h : SL V A l.length l) => TrimRows_i V A l.length cc l h HSZ.out (by omega))
  have CS := hide (fun (V : World) (h : SL V A l.length l) => TrimRows_s V A l.length cc l h HSZ.out (by omega))
  have OK := hide (fun h => tr_ok (l := l) h)
  obtain ⟨L, hL⟩ : ∃ L, L = trR l := ⟨_, rfl⟩
  have hlen : L.length ≤ 60 := by rw [hL]; exact trR_len _
  rw [← hL] at CI CS OK
  clear hL
  go_wp2_with fail
  (with_reducible refine (CI.out _ R.out).mono ?_)
  rintro e u1 ⟨A1, c1, rfl, ho1, hb1⟩
  have R1 := hide (R.out.below hb1)
  have HB1 := hide (bl_call hb1 HB.out)
  clear hb1
  go_wp2_with fail
  (with_reducible refine (CS.out _ R1.out).mono ?_)
  rintro e u2 ⟨A2, c2, rfl, ho2, hb2⟩
  have R2 := hide (R1.out.below hb2)
  have HB2 := hide (bl_call hb2 HB1.out)
  have ho1 := ho1.below hb2
  clear hb2
  go_wp2_with fail
  (with_reducible refine (eqTexts_l _ _ _ _ _ _ _ _ _ ho1.reads ho2.reads (by omega) (by omega)).mono ?_)
  rintro e u3 ⟨rfl, j3, rfl⟩
  simp only [decide_true]
  have R3 := hide (R2.out.drewN j3)
  have S3 := hide (ho1.drewN j3)
  have HB3 := hide (bl_drewN HB2.out j3)
  clear ho1 ho2
  rcases Nat.eq_zero_or_pos L.length with h0 | h0
  · have z0 : ((L.length : Int) == 0) = true := by simp [h0]
    have LL := hide (show L.length ≤ 4611686018427387904 by omega)
    clear h0 hlen
    go_wp2_with fail
    (with_reducible refine (CS.out _ R3.out).mono ?_)
    rintro e u4 ⟨A4, c4, rfl, ho4, hb4⟩
    have S4 := hide (S3.out.below hb4)
    have HB4 := hide (bl_call hb4 HB3.out)
    have HO4 := hide ho4
    clear hb4 ho4
    go_wp2_with fail
    (with_reducible refine (eqTexts_l _ _ _ _ _ _ _ _ _ S4.out.reads HO4.out.reads LL.out LL.out).mono ?_)
    rintro e u5 ⟨rfl, j5, rfl⟩
    simp only [decide_true]
    go_wp2
    go_ret
    exact ⟨rfl, bl_drewN HB4.out _⟩
  · have z0 : ((L.length : Int) == 0) = false := beq_eq_false_iff_ne.2 (by omega)
    have K := hide (OK.out (by omega))
    obtain ⟨V, hV⟩ : ∃ V, V = u2.drewN j3 := ⟨_, rfl⟩
    rw [← hV] at R3 S3 HB3
    have HV := hide hV
    have SL1 := hide S3.out.reads
    obtain ⟨g, rfl, _, _, _, _⟩ := S3.out.form h0
    have hle := K.out.le
    clear hV OK CS R R1 R2
    go_wp2
    rw [← HV.out]
    go_loopw [5] (fun i u => ∃ p j : Nat, p ≤ L.length ∧ i = .int .i64 p ∧ u = V.drewN j) (fun i _ => L.length - (intOf i).toNat)
    case atStart => exact ⟨0, 0, by omega, rfl, rfl⟩
    case round =>
      obtain ⟨p, j, hp, rfl, rfl⟩ := hrel
      by_cases hlt : p < L.length
      · obtain ⟨b, o, he, hb0, c0⟩ := SL1.out.at_ hlt
        injection he with he
        cases he
        rw [Nat.zero_add] at c0
        obtain ⟨b', o', hA, hb', d0⟩ := R3.out.at_ (i := p) (by omega)
        subst hA
        have hat := K.out.at_ p hlt
        obtain ⟨s, hs⟩ : ∃ s, s = sg l p := ⟨_, rfl⟩
        obtain ⟨t, ht⟩ : ∃ t, t = tr s := ⟨_, rfl⟩
        rw [hat, ← hs, ← ht] at c0
        rw [← hs] at d0
        have htl : t.size ≤ s.size := by rw [ht]; exact tr_le s
        have hss : s.size ≤ 1048576 := by rw [hs]; exact HSZ.out p (by omega)
        have SX : ∀ W : World, (Instr.slice 9 (.string s) none (some (.int .i64 t.size)) none).run Tryd.prog W = .ok (.string t) W := fun W => by
          rw [txt_to s t.size htl W, show s.extract 0 t.size = t by rw [ht, tr_size]; rfl]
        have g2 : decide ((l.length : Int) ≤ (p : Int)) = false := decide_eq_false (by omega)
        have g2' : decide (l.length ≤ p) = false := decide_eq_false (by omega)
        have g3 : decide ((s.size : Int) < (t.size : Int)) = false := decide_eq_false (by omega)
        have g3' : decide (s.size < t.size) = false := decide_eq_false (by omega)
        have tt : (t.toList != t.toList) = false := by simp
        have LASTH := hide (fun m hm h => tr_last (s := s) (m := m) hm h)
        rw [← ht] at LASTH
        rcases Nat.eq_zero_or_pos t.size with hz | hz
        · have g1 : decide ((0 : Int) < (t.size : Int)) = false := decide_eq_false (by omega)
          have g1' : decide (0 < t.size) = false := decide_eq_false (by omega)
          clear hat hs ht hz
          go_wp2_with fail
          go_quiet (fail)
          go_wp2
          go_roundw
          case rel => exact ⟨p + 1, _, by omega, by go_num, by first | rfl | rw [World.drewN_drewN]⟩
          case measure => simp [intOf]; omega
        · have g1 : decide ((0 : Int) < (t.size : Int)) = true := decide_eq_true (by omega)
          have g1' : decide (0 < t.size) = true := decide_eq_true (by omega)
          obtain ⟨m, hm⟩ : ∃ m, t.size = m + 1 := ⟨t.size - 1, by omega⟩
          have em : (t.size : Int) - 1 = (m : Int) := by omega
          have hmt : m < t.size := by omega
          have h32 := LASTH.out m hm hmt
          have hb2 : t[m].toNat < 256 := UInt8.toNat_lt _
          have q : ((t[m].toNat : Int) == 32) = false := beq_eq_false_iff_ne.2 h32
          clear hat hs ht hz hm h32
          go_wp2_with fail
          go_quiet (fail)
          go_wp2
          go_roundw
          case rel => exact ⟨p + 1, _, by omega, by go_num, by first | rfl | rw [World.drewN_drewN]⟩
          case measure => simp [intOf]; omega
      · obtain ⟨m, hm⟩ : ∃ m, L.length = m + 1 := ⟨L.length - 1, by omega⟩
        obtain ⟨b, o, he, hb0, c0⟩ := SL1.out.at_ (i := m) (by omega)
        injection he with he
        cases he
        rw [Nat.zero_add] at c0
        have hne := K.out.last m hm
        have em : (L.length : Int) - 1 = (m : Int) := by omega
        have hml : m < L.length := by omega
        have h60 := K.out.le60
        have CI2 := hide (fun (U : World) (h : SL U (some ⟨g, 0, none⟩) L.length L) => TrimRows_i U (some ⟨g, 0, none⟩) L.length c1 L h (fun k hk => by
          rw [K.out.at_ k hk]
          have := tr_le (sg l k)
          have := HSZ.out k (by omega)
          omega) (by omega))
        rw [K.out.idem] at CI2
        obtain ⟨t, ht⟩ : ∃ t, t = sg L m := ⟨_, rfl⟩
        rw [← ht] at c0 hne
        have q1 := toL_ne hne
        have q1' : t.toList.isEmpty = false := by rw [Bool.eq_false_iff]; intro h; exact q1 (by simpa using h)
        clear hm ht hne
        go_wp2_with fail
        (with_reducible refine (CI2.out _ (SL1.out.drewN j)).mono ?_)
        rintro e u6 ⟨A6, c6, rfl, ho6, hb6⟩
        have HB6 := hide (bl_call hb6 (bl_drewN HB3.out j))
        have SL6 := hide ((SL1.out.drewN j).below hb6)
        have HO6 := hide ho6.reads
        clear hb6 ho6
        go_wp2_with fail
        (with_reducible refine (eqTexts_l _ _ _ _ _ _ _ _ _ HO6.out SL6.out (by omega) (by omega)).mono ?_)
        rintro e u7 ⟨rfl, j7, rfl⟩
        simp only [decide_true]
        go_wp2
        go_ret
        exact ⟨bool_ret (by simp [q1]), bl_drewN HB6.out _⟩
set_option maxRecDepth 100000 in
theorem lifted_FnTrimRows (os : Os) (started : os.Started) (H : Type) (enc : TypeId × Value → H) :
    ReturnsInHanded {} Tryd.checked os 4 .any (fun w args => (Rows.fnTrimRowsSpec.pre enc Tryd.prog Tryd.f4 Rows.fnTrimRowsRow.domain false w args ∧ laidMetH Tryd.prog Rows.fnTrimRowsRow.laid w) ∧ sizedMet enc Tryd.prog Tryd.f4 (OpenSpec.ofChange Rows.fnTrimRowsSpec) false w args) (Rows.fnTrimRowsSpec.post enc Tryd.prog Tryd.f4 false true false false) := by
  refine returnsInHanded_of_change_and (C := Tryd.checked) (X := fun w _ => laidMetH Tryd.prog Rows.fnTrimRowsRow.laid w) (fun _ _ _ hh h => h.of_heap hh) own_knob started (by kernel_rfl) Tryd.func4
    (ChangeSpec.witness_shaped (enc := enc) (C := Tryd.checked) (os := os) (X := fun w _ => laidMetH Tryd.prog Rows.fnTrimRowsRow.laid w) false (World.laidAll Tryd.prog os Rows.fnTrimRowsRow.laid) #[.slice none 0 0] 8 (World.laidAll_os _ _ _) (World.shaped_of_ZipB (by kernel_rfl) (by kernel_rfl)) (by kernel_rfl) (by kernel_rfl) (by kernel_rfl)
      (by rw [MakeChecks.laidMetH_plain _ _ _ (by kernel_rfl)]; exact laidMet_laidAll _ (by kernel_rfl) (by kernel_rfl))) ?_
  intro W base args ds gs before hval0 hW hcnd _ hL _
  have hval : ∀ (j : Nat) t v, Tryd.f4.params[j]? = some t → args[j]? = some v → Value.okWide Tryd.prog W .any base t v := hval0
  have hW' := hW
  obtain ⟨p, q, hA0, hV, rfl, hfz, hnd⟩ := hW
  have hA : DataW.TrodAll enc Tryd.prog W 0 (fun _ => true) true Tryd.f4.params.toList args.toList ds p := hA0
  rw [Tryd.params4] at hA hval
  obtain ⟨v0, vs0, d0, ds0, p0, q0, hargs, rfl, rfl, zh0, r0⟩ := trodAll_cons hA
  obtain ⟨rfl, rfl, rfl⟩ := trodAll_nil r0
  obtain rfl : args = #[v0] := by cases args; simp_all
  obtain ⟨rfl, rfl⟩ := trodVars_none hV
  have zk0 := zh0
  have zl0 : ∀ x ∈ p0, x.block < W.heap.size := by obtain ⟨m, hm⟩ := zk0; exact DataW.trod_lt m _ _ _ hm
  clear hA0 hval0
  obtain ⟨a_code, n_code, c_code, rfl⟩ := okWide_slice Tryd.underlying27 (hval 0 27 v0 rfl rfl)
  obtain ⟨code, w_code⟩ := isRow_of Tryd.underlying27 Tryd.underlying5 (by kernel_rfl) zh0
  refine (walk_FnTrimRows a_code n_code c_code code W w_code).mono fun e W' ⟨he, bel⟩ => ?_
  subst he
  exact ⟨_, rfl, _, _, _, [], _, [], hW', trodAll_mk1 (shut_bool Tryd.underlying4 _), (trodAll_cons_mk (Below.trod laid_out (by kernel_rfl) (of_decide_eq_true (by kernel_rfl)) zk0 bel zl0) trodAll_mk0), rfl, bel.frame _, fun h => by cases h⟩

theorem FnTrimRows_holds : Rows.FnTrimRowsSaid :=
  OpenClaim.holds_of_wide 4 Tryd.f4 rfl rfl rfl rfl rfl rfl rfl ⟨rfl, rfl, rfl, rfl, rfl⟩ rfl rfl rfl rfl rfl (by kernel_rfl) Tryd.func4 (by kernel_rfl)
    (of_decide_eq_true (by kernel_rfl)) (by unfold Func.isWrapper; first | (rw [if_pos (by decide +kernel)]; kernel_rfl) | (rw [if_neg (by decide +kernel)]; exact ⟨rfl, rfl⟩))
    (fun os started H enc _ => lifted_FnTrimRows os started H enc)
/-- The tied card. -/
theorem FnTrimRows_card : Rows.FnTrimRowsCardSaid :=
  Claim7.holds_tied_plain_at .later [] [.data, .pinned] true (true, "4a68605be7fa20aeaa6d439ca3e302fb4b2b5b09fccb05a87eaa85e128c8b373") false FnTrimRows_holds (fun _ h => by cases h) (by kernel_rfl) (fun _ h => by cases h) fnTrimRows_row_tie rfl ⟨rfl, rfl⟩ (by kernel_rfl) rfl
    (fun f fn hf hfn => by
      obtain rfl : f = 4 := Option.some.inj ((show Tryd.prog.funcNamed "loop.example/typesetting/laws.FnTrimRows" = some 4 by kernel_rfl).symm.trans hf) |>.symm
      obtain rfl : fn = Tryd.f4 := (Option.some.inj (Tryd.func4.symm.trans hfn)).symm
      exact ⟨by kernel_rfl, fun j t ht => by
        rw [Tryd.params4] at ht
        have hm : t ∈ [27] := by simpa using Array.mem_of_getElem? ht
        have hall : ([27].all fun u => !Tryd.prog.wantsStandIn u) = true := by kernel_rfl
        exact (show Tryd.prog.wantsStandIn t = false by simpa using List.all_eq_true.1 hall t hm)⟩)
    (by kernel_rfl)
end Go.Proofs.YtpgcpmfnidjhnaaDoor
