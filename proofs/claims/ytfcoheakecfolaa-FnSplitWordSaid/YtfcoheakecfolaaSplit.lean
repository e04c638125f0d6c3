/- SplitWord answers as its model does. -/
import Derived.Test.YtfcoheakecfolaaStrs
import Derived.Test.YtfcoheakecfolaaWord
import Derived.Test.YtfcoheakecfolaaClone
namespace Go.Proofs.Ytfcoheakecfolaa
open Go.ChangeShapes Go.WideShapes Go.ChangeAt Go.RowKit
set_option linter.unusedVariables false

/-- Where the rest begins and the parts, behind the first p numbers; none if one does not fit. -/
def swTo (s : ByteArray) (pts : List Int) : Nat → Option (Nat × List ByteArray)
  | 0 => some (0, [])
  | p + 1 => (swTo s pts p).bind fun st => if (st.1 : Int) < ng pts p ∧ ng pts p < s.size then some ((ng pts p).toNat, st.2 ++ [s.extract st.1 (ng pts p).toNat]) else none
def sw (s : ByteArray) (pts : List Int) : List ByteArray := if okWord s then ((swTo s pts pts.length).map fun st => st.2 ++ [s.extract st.1 s.size]).getD [] else []
theorem swTo_yes {s : ByteArray} {pts : List Int} {p f : Nat} {L : List ByteArray} {z : Int} (h : swTo s pts p = some (f, L)) (hz : ng pts p = z) (h1 : (f : Int) < z) (h2 : z < s.size) : swTo s pts (p + 1) = some (z.toNat, L ++ [s.extract f z.toNat]) := by
  subst hz; simp [swTo, h, h1, h2]
theorem swTo_no {s : ByteArray} {pts : List Int} {p f : Nat} {L : List ByteArray} {z : Int} (h : swTo s pts p = some (f, L)) (hz : ng pts p = z) (h1 : ¬ ((f : Int) < z ∧ z < s.size)) (d : Nat) : swTo s pts (p + 1 + d) = none := by
  subst hz
  induction d with
  | zero => simp [swTo, h]; omega
  | succ d ih => show swTo s pts (p + 1 + d + 1) = none; simp [swTo, ih]
theorem swTo_len {s : ByteArray} {pts : List Int} {p f : Nat} {L : List ByteArray} (h : swTo s pts p = some (f, L)) : L.length = p ∧ f ≤ s.size ∧ p ≤ f := by
  induction p generalizing f L with
  | zero => simp [swTo] at h; obtain ⟨rfl, rfl⟩ := h; simp
  | succ p ih =>
    cases hp : swTo s pts p with
    | none => simp [swTo, hp] at h
    | some st =>
      obtain ⟨f0, L0⟩ := st
      have := ih hp
      simp only [swTo, hp, Option.bind_some] at h
      split at h
      · simp at h; obtain ⟨rfl, rfl⟩ := h; simp; omega
      · cases h
theorem sw_no {s : ByteArray} {pts : List Int} (h : okWord s = false) : sw s pts = [] := by simp [sw, h]
theorem sw_bad {s : ByteArray} {pts : List Int} {p f : Nat} {L : List ByteArray} {z : Int} (h : swTo s pts p = some (f, L)) (hz : ng pts p = z) (h1 : ¬ ((f : Int) < z ∧ z < s.size)) (hp : p < pts.length) : sw s pts = [] := by
  have := swTo_no h hz h1 (pts.length - (p + 1))
  rw [show p + 1 + (pts.length - (p + 1)) = pts.length from by omega] at this
  simp [sw, this]
theorem sw_yes {s : ByteArray} {pts : List Int} {f : Nat} {L : List ByteArray} (hw : okWord s = true) (h : swTo s pts pts.length = some (f, L)) : sw s pts = L ++ [s.extract f s.size] := by simp [sw, hw, h]

theorem ext_le (s : ByteArray) (a b : Nat) (h : s.size ≤ 1000000) : (s.extract a b).size ≤ 1000000 := by simp; omega
/-- What a function leaves that returns a list of texts that it made. -/
def RetS (w : World) (l : List ByteArray) (e : Ending) (w' : World) : Prop := ∃ A c, e = .returned (.slice A l.length c) ∧ OS w' 9 w.heap.size A c l ∧ Below w.heap.size w w'
theorem RetS.no {w w' : World} {l : List ByteArray} (h : l = []) (hb : Below w.heap.size w w') : RetS w l (.returned (.slice none 0 0)) w' := by
  subst h
  exact ⟨none, 0, rfl, OS.nil _ _ _, hb⟩

theorem SplitWord_i (s : ByteArray) (w : World) (A : Option Addr) (n c : Nat) (pts : List Int) (hs : s.size ≤ 1048576) (ha : IL w A n pts) (hn : n ≤ 4611686018427387904) :
    Calls Try.prog 35 #[.string s, .slice A n c] w (RetS w (sw s pts)) := by
  obtain rfl : n = pts.length := ha.1
  cases q : okWord s
  · have E := hide (sw_no (pts := pts) q)
    go_enter Try.func35, Try.ntmps35
    go_wp2_with (go_at_call 59; refine (validWord_i _ _ (by omega)).mono ?_; rintro e w' ⟨rfl, rfl⟩)
    go_ret
    exact RetS.no E.out (bl_refl _)
  · obtain ⟨i0, hi0, jz0, jz1, jz2⟩ := info_parts str_info
    have hsz := (okWord_iff.1 q).1
    obtain ⟨s0, s1⟩ := hsz
    have Q := hide q
    go_enter Try.func35, Try.ntmps35
    go_wp2_with (go_at_call 59; refine (validWord_i _ _ (by omega)).mono ?_; rintro e w' ⟨rfl, rfl⟩)
    clear q
    go_loopw [14, 5, 6] (fun i v f u => ∃ (p k : Nat) (A' : Option Addr) (cc : Nat) (L : List ByteArray), p ≤ pts.length ∧ i = .int .i64 p ∧ v = .slice A' p cc ∧ f = .int .i64 k ∧ k ≤ s.size ∧ p = L.length ∧ swTo s pts p = some (k, L) ∧ OS u 9 w.heap.size A' cc L ∧ Below w.heap.size w u) (fun i _ _ _ => pts.length - (intOf i).toNat)
    case atStart => exact ⟨0, 0, none, 0, [], by omega, rfl, rfl, rfl, by omega, rfl, rfl, OS.nil _ _ _, bl_refl _⟩
    case round =>
      obtain ⟨p, k, A', cc, L, hp, rfl, rfl, rfl, hk, hpl, hst, hol, hb⟩ := hrel
      have hpk := (swTo_len hst).2.2
      have hpk2 : p ≤ 20 := by omega
      have HPL := hide hpl
      have HST := hide hst
      clear hpl hst
      by_cases hlt : p < pts.length
      · obtain ⟨b, o, hA, hbl, hc⟩ := (ha.below hb).at_ hlt
        subst hA
        obtain ⟨z, hz⟩ : ∃ z, z = ng pts p := ⟨_, rfl⟩
        rw [← hz] at hc
        have HZ := hide hz.symm
        clear hz
        by_cases hv : (k : Int) < z ∧ z < s.size
        · obtain ⟨v1, v2⟩ := hv
          have q5 : inB z (k + 1) (s.size - 1) = true := inB_yes (by omega) (by omega)
          have M := hide (swTo_yes HST.out HZ.out v1 v2)
          obtain ⟨m, rfl⟩ := Int.eq_ofNat_of_zero_le (show 0 ≤ z by omega)
          have HO := hide hol
          have HB := hide hb
          clear hol hb
          have x1 : k ≤ m := by omega
          have x2 : m ≤ s.size := by omega
          go_wp2_with (first | (go_at_call 44; refine (within_any _ _ _ _).mono ?_; rintro e w' ⟨rfl, rfl⟩))
          refine (Clone_any _ _ (ext_le s k m (by omega))).mono ?_
          rintro e u1 ⟨rfl, hb1⟩
          have hol1 := HO.out.below hb1
          have HB1 := hide (bl_call hb1 HB.out)
          have hz1 : w.heap.size ≤ u1.heap.size := HB1.out.size
          clear hb1
          go_wp2_with (at_builtin; refine wpList_append_str rfl (.tmp 26) (.tmp 32) _ rfl 9 i0 Try.underlying47 hi0 jz0 jz1 jz2 w.heap.size A' cc p L rfl (HPL.out) (hol1.alloc _) u1.heap.size (s.extract k m) rfl (by simp) (by omega) (by simp; omega) ?_; intro A' c' w' hol' hb' hg')
          rename_i A2 c2
          go_roundw
          case rel =>
            refine ⟨p + 1, m, _, _, L ++ [s.extract k m], by omega, by go_num, rfl, rfl, by omega, by simp [HPL.out], by simpa using M.out, hol', (bl_alloc HB1.out _).trans hb'⟩
          case measure => simp [intOf]; omega
        · have E := hide (sw_bad HST.out HZ.out hv hlt)
          have q5 : inB z (k + 1) (s.size - 1) = false := inB_no (by omega)
          go_wp2_with (first | (go_at_call 44; refine (within_any _ _ _ _).mono ?_; rintro e w' ⟨rfl, rfl⟩))
          go_ret
          exact RetS.no E.out hb
      · have hpe : p = pts.length := by omega
        have E := hide (sw_yes Q.out (by rw [← hpe]; exact HST.out))
        have HB := hide hb
        have HO := hide hol
        clear hpe hb hol
        go_wp2_with fail
        refine (Clone_any _ _ (ext_le s k s.size (by omega))).mono ?_
        rintro e u1 ⟨rfl, hb1⟩
        have hol1 := HO.out.below hb1
        have HB1 := hide (bl_call hb1 HB.out)
        have hz1 : w.heap.size ≤ u1.heap.size := HB1.out.size
        clear hb1
        go_wp2_with (at_builtin; refine wpList_append_str rfl (.tmp 36) (.tmp 41) _ rfl 9 i0 Try.underlying47 hi0 jz0 jz1 jz2 w.heap.size A' cc p L rfl (HPL.out) (hol1.alloc _) u1.heap.size (s.extract k s.size) rfl (by simp) (by omega) (by simp; omega) ?_; intro A' c' w' hol' hb' hg')
        rename_i A2 c2
        go_ret
        exact ⟨_, _, by rw [E.out, List.length_append, ← HPL.out]; rfl, by rw [E.out]; exact hol', (bl_alloc HB1.out _).trans hb'⟩

theorem OS.lit0 (w : World) (B : Nat) (hB : B ≤ w.heap.size) : OS (w.alloc (.cells #[] 9)) 9 B (some ⟨w.heap.size, 0, none⟩) 0 [] := by
  have := OS.lit (w := w) (e := 9) (B := B) hB [] (by simp)
  simpa using this
theorem SplitWord_s (s : ByteArray) (w : World) (A : Option Addr) (n c : Nat) (pts : List Int) (hs : s.size ≤ 1048576) (ha : IL w A n pts) (hn : n ≤ 4611686018427387904) :
    Calls Try.prog 37 #[.string s, .slice A n c] w (RetS w (sw s pts)) := by
  obtain rfl : n = pts.length := ha.1
  cases q : okWord s
  · have E := hide (sw_no (pts := pts) q)
    go_enter Try.func37, Try.ntmps37
    go_wp2_with (go_at_call 61; refine (isWord_s _ _ (by omega)).mono ?_; rintro e w' ⟨rfl, rfl⟩)
    go_ret
    exact RetS.no E.out (bl_alloc (bl_refl _) _)
  · obtain ⟨i0, hi0, jz0, jz1, jz2⟩ := info_parts str_info
    have hsz := (okWord_iff.1 q).1
    obtain ⟨s0, s1⟩ := hsz
    have Q := hide q
    have H0 := hide (OS.lit0 w w.heap.size (Nat.le_refl _))
    have ha0 := ha.alloc (.cells #[] 9)
    go_enter Try.func37, Try.ntmps37
    go_wp2_with (go_at_call 61; refine (isWord_s _ _ (by omega)).mono ?_; rintro e w' ⟨rfl, rfl⟩)
    clear q
    go_loopw [7, 5, 6] (fun i v f u => ∃ (p k : Nat) (A' : Option Addr) (cc : Nat) (L : List ByteArray), p ≤ pts.length ∧ i = .int .i64 p ∧ v = .slice A' p cc ∧ f = .int .i64 k ∧ k ≤ s.size ∧ p = L.length ∧ swTo s pts p = some (k, L) ∧ OS u 9 w.heap.size A' cc L ∧ Below w.heap.size w u) (fun i _ _ _ => pts.length - (intOf i).toNat)
    case atStart => exact ⟨0, 0, _, _, [], by omega, rfl, rfl, rfl, by omega, rfl, rfl, H0.out, bl_alloc (bl_refl _) _⟩
    case round =>
      obtain ⟨p, k, A', cc, L, hp, rfl, rfl, rfl, hk, hpl, hst, hol, hb⟩ := hrel
      have hpk := (swTo_len hst).2.2
      have hpk2 : p ≤ 20 := by omega
      have HPL := hide hpl
      have HST := hide hst
      have hz1 : w.heap.size ≤ wr.heap.size := hb.size
      clear hpl hst
      by_cases hlt : p < pts.length
      · obtain ⟨b, o, hA, hbl, hc⟩ := ha.at_ hlt
        subst hA
        replace hc := keep_cell hb hc
        obtain ⟨z, hz⟩ : ∃ z, z = ng pts p := ⟨_, rfl⟩
        rw [← hz] at hc
        have HZ := hide hz.symm
        clear hz
        by_cases hv : (k : Int) < z ∧ z < s.size
        · obtain ⟨v1, v2⟩ := hv
          have M := hide (swTo_yes HST.out HZ.out v1 v2)
          obtain ⟨m, rfl⟩ := Int.eq_ofNat_of_zero_le (show 0 ≤ z by omega)
          have HO := hide hol
          have HB := hide hb
          clear hb
          have x1 : k ≤ m := by omega
          have x2 : m ≤ s.size := by omega
          go_wp2_with ((at_builtin; refine wpList_append_str rfl (.tmp 33) (.tmp 41) _ rfl 9 i0 Try.underlying47 hi0 jz0 jz1 jz2 w.heap.size A' cc p L rfl (HPL.out) (hol.alloc _) wr.heap.size (s.extract k m) rfl (by simp) (by omega) (by simp; omega) ?_; intro A' c' w' hol' hb' hg'); have hcw : w'.cell? ⟨b, o + p, none⟩ = some (.int .i64 (m : Int)) := (hb'.cell (p := ⟨b, o + p, none⟩) hbl).trans (keep_alloc hc _))
          go_roundw
          case rel =>
            refine ⟨p + 1, m, _, _, L ++ [s.extract k m], by omega, by go_num, rfl, rfl, by omega, by simp [HPL.out], by simpa using M.out, hol', (bl_alloc HB.out _).trans hb'⟩
          case measure => simp [intOf]; omega
        · have E := hide (sw_bad HST.out HZ.out hv hlt)
          rcases (by omega : z ≤ k ∨ (k : Int) < z ∧ (s.size : Int) ≤ z) with h | ⟨h, h'⟩
          all_goals
            clear hv
            go_wp2
            go_ret
            exact RetS.no E.out hb
      · have hpe : p = pts.length := by omega
        have E := hide (sw_yes Q.out (by rw [← hpe]; exact HST.out))
        clear hpe
        go_wp2_with (at_builtin; refine wpList_append_str rfl (.tmp 47) (.tmp 51) _ rfl 9 i0 Try.underlying47 hi0 jz0 jz1 jz2 w.heap.size A' cc p L rfl (HPL.out) (hol.alloc _) wr.heap.size (s.extract k s.size) rfl (by simp) (by omega) (by simp; omega) ?_; intro A' c' w' hol' hb' hg')
        go_ret
        exact ⟨_, _, by rw [E.out, List.length_append, ← HPL.out]; rfl, by rw [E.out]; exact hol', (bl_alloc hb _).trans hb'⟩
end Go.Proofs.Ytfcoheakecfolaa
