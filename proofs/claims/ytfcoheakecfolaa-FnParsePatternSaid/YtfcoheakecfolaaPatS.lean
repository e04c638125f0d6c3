/- ParsePattern's model answers what patterns as lists give. -/
import Derived.Test.YtfcoheakecfolaaPat
namespace Go.Proofs.Ytfcoheakecfolaa
open Go.ChangeShapes Go.WideShapes Go.ChangeAt Go.RowKit
set_option linter.unusedVariables false

theorem ext_one {s : ByteArray} {k : Nat} (h : k < s.size) : (s.extract k (k + 1)).data.toList = [s[k]] ∧ (s.extract k (k + 1)).size = 1 := by
  have e := Lib.extract_data s k (k + 1)
  have e1 : (s.extract k (k + 1)).data.toList = [s[k]] := by
    rw [e, show k + 1 - k = 1 from by omega, List.take_one, List.head?_drop, List.getElem?_eq_getElem (by simpa using h)]
    rfl
  refine ⟨e1, ?_⟩
  have := Lib.size_eq (s.extract k (k + 1))
  rw [e1] at this
  simpa using this

/-- s[k:k+1]. -/
theorem slice_one {s : ByteArray} {k : Nat} (h : k < s.size) (W : World) : (Instr.slice 9 (.string s) (some (.int .i64 (k : Int))) (some (.int .i64 ((k : Int) + 1))) none).run Try.prog W = .ok (.string (s.extract k (k + 1))) W := by
  have := run_slice_string (P := Try.prog) W 9 s .i64 .i64 k ((k : Int) + 1) Try.underlying9 (by omega) (by omega) (by omega)
  rw [this]
  congr 3
/-- What the model's helper leaves. -/
def RetQ (w : World) (r : Option (List UInt8 × List Int)) (e : Ending) (w' : World) : Prop := ∃ (t : ByteArray) (A : Option Addr) (c : Nat) (V : List Int), e = .returned (.tuple #[.string t, .slice A V.length c, .bool r.isSome]) ∧ OL w' 3 w.heap.size A c V ∧ (∀ L V', r = some (L, V') → t.data.toList = L ∧ V = V') ∧ Below w.heap.size w w'
theorem RetQ.no {w u : World} {r : Option (List UInt8 × List Int)} (h : r = none) (hb : Below w.heap.size w u) : RetQ w r (.returned (.tuple #[.string ⟨#[]⟩, .slice (some ⟨u.heap.size, 0, none⟩) 0 0, .bool false])) (u.alloc (.cells #[] 3)) := by
  subst h
  refine ⟨⟨#[]⟩, some ⟨u.heap.size, 0, none⟩, 0, [], rfl, ?_, (fun L V' h => by cases h), bl_alloc hb _⟩
  have := OL.lit (w := u) (e := 3) (B := w.heap.size) hb.size [] (by simp)
  simpa using this

theorem ng_last_snoc' (l : List Int) (z : Int) : ng (l ++ [z]) l.length = z := by simp [ng, List.getD]
theorem dg_snoc {L : List UInt8} {V : List Int} (h : V.length = L.length + 1) (c : UInt8) : (false = false ↔ ng (V ++ [0]) (L ++ [c]).length = 0) := by
  have e : (L ++ [c]).length = V.length := by simp; omega
  rw [e, ng_last_snoc']
  simp
set_option maxHeartbeats 2000000 in
theorem parsePattern_s (s : ByteArray) (w : World) (hs : s.size ≤ 1048576) :
    Calls Try.prog 57 #[.string s] w (RetQ w (pp s.data.toList)) := by
  obtain ⟨i0, hi0, jz0, jz1, jz2⟩ := info_parts int_info
  have H0 : Hid (OL (w.alloc (.cells #[.int .i64 0] 3)) 3 w.heap.size (some ⟨w.heap.size, 0, none⟩) 1 [0]) := hide (by
    have := OL.lit (w := w) (e := 3) (B := w.heap.size) (Nat.le_refl _) [0] (by unfold maxLen; simp)
    simpa using this)
  go_enter Try.func57, Try.ntmps57
  go_wp2
  go_loopw [8, 5, 6, 7] (fun i x v d u => ∃ (k : Nat) (C : Option Addr) (c : Nat) (L : List UInt8) (V : List Int) (acc : ByteArray) (dg : Bool), k ≤ s.size ∧ i = .int .i64 k ∧ x = .string acc ∧ v = .slice C V.length c ∧ d = .bool dg ∧ acc.data.toList = L ∧ acc.size ≤ k ∧ V.length = L.length + 1 ∧ ppTo s.data.toList k = some (L, V) ∧ (dg = false ↔ ng V L.length = 0) ∧ OL u 3 w.heap.size C c V ∧ Below w.heap.size w u) (fun i _ _ _ _ => s.size - (intOf i).toNat)
  case atStart => exact ⟨0, _, _, [], [0], ⟨#[]⟩, false, by omega, rfl, rfl, rfl, rfl, rfl, by simp [ByteArray.size], rfl, rfl, by simp [ng], H0.out, bl_alloc (bl_refl _) _⟩
  case round =>
    obtain ⟨k, C, c, L, V, acc, dg, hk, rfl, rfl, rfl, rfl, hacc, hsz, hV, hst, hdg, hol, hb⟩ := hrel
    have HST := hide hst
    have HV := hide hV
    have HA := hide hacc
    have HD := hide hdg
    have hz1 : w.heap.size ≤ wr.heap.size := hb.size
    have hV2 : V.length ≤ 1048578 := by
      have := (ppTo_len hst).2
      simp at this
      omega
    clear hst hV hacc hdg
    by_cases hlt : k < s.size
    · have hb8 : s[k].toNat < 256 := UInt8.toNat_lt _
      have HN := hide (ppTo_succ HST.out)
      have hx1 := (ext_one hlt).2
      have hsl := slice_one hlt
      have XD := hide (show (acc ++ s.extract k (k + 1)).data.toList = L ++ [s[k]] by rw [← HA.out, ← (ext_one hlt).1]; simp)
      have SZ := hide (show (acc ++ s.extract k (k + 1)).size = acc.size + 1 by rw [ByteArray.size_append, hx1])
      rcases (by omega : (97 ≤ s[k].toNat ∧ s[k].toNat ≤ 122) ∨ (s[k].toNat = 46 ∧ (k = 0 ∨ k ≠ 0 ∧ k + 1 = s.size)) ∨ (s[k].toNat = 46 ∧ k ≠ 0 ∧ k + 1 ≠ s.size) ∨ (49 ≤ s[k].toNat ∧ s[k].toNat ≤ 57) ∨ (s[k].toNat < 49 ∧ s[k].toNat ≠ 46) ∨ (57 < s[k].toNat ∧ s[k].toNat < 97) ∨ 122 < s[k].toNat) with h | ⟨h, h'⟩ | ⟨h, h1, h2⟩ | h | h | h | h
      · have M : Hid (ppTo s.data.toList (k + 1) = some (L ++ [s[k]], V ++ [0])) := hide (HN.out.trans (by rw [byte_at hlt]; exact ppStep_char (.inl h)))
        have e1 : 97 ≤ (s[k].toNat : Int) := by omega
        have e2 : (s[k].toNat : Int) ≤ 122 := by omega
        clear h
        go_wp2_with (at_builtin; refine wpList_append_int rfl (.tmp 69) (.tmp 70) _ rfl 3 i0 Try.underlying30 hi0 jz0 jz1 jz2 w.heap.size C c V.length V rfl (rfl) (hol.alloc _) wr.heap.size 0 rfl (by simp) (by omega) (by simp; omega) ?_; intro A' c' w' hol' hb' hg')
        go_roundw
        case rel => exact ⟨k + 1, A', c', L ++ [s[k]], V ++ [0], acc ++ s.extract k (k + 1), false, by omega, by go_num, rfl, by simp, rfl, by rw [XD.out], by rw [SZ.out]; omega, by simp [HV.out], M.out, dg_snoc HV.out _, hol', (bl_alloc hb _).trans hb'⟩
        case measure => simp [intOf]; omega
      · have M : Hid (ppTo s.data.toList (k + 1) = some (L ++ [s[k]], V ++ [0])) := hide (HN.out.trans (by rw [byte_at hlt]; exact ppStep_char (.inr ⟨h, (data_len s).symm ▸ (show k = 0 ∨ k + 1 = s.size from by omega)⟩)))
        have e1 : ((s[k].toNat : Int) == 46) = true := beq_iff_eq.2 (by omega)
        have e4 : (s[k].toNat : Int) < 49 := by omega
        rcases h' with rfl | h'
        · have hsl0 : ∀ W, (Instr.slice 9 (.string s) (some (.int .i64 0)) (some (.int .i64 1)) none).run Try.prog W = .ok (.string (s.extract 0 (0 + 1))) W := slice_one hlt
          clear h
          go_wp2_with (at_builtin; refine wpList_append_int rfl (.tmp 69) (.tmp 70) _ rfl 3 i0 Try.underlying30 hi0 jz0 jz1 jz2 w.heap.size C c V.length V rfl (rfl) (hol.alloc _) wr.heap.size 0 rfl (by simp) (by omega) (by simp; omega) ?_; intro A' c' w' hol' hb' hg')
          go_roundw
          case rel => exact ⟨0 + 1, A', c', L ++ [s[0]], V ++ [0], acc ++ s.extract 0 (0 + 1), false, by omega, by go_num, rfl, by simp, rfl, by rw [XD.out], by rw [SZ.out]; omega, by simp [HV.out], M.out, dg_snoc HV.out _, hol', (bl_alloc hb _).trans hb'⟩
          case measure => simp [intOf]; omega
        · have e3 : ((k : Int) == (s.size : Int) - 1) = true := beq_iff_eq.2 (by omega)
          have e2 : ((k : Int) == 0) = false := beq_eq_false_iff_ne.2 (by omega)
          clear h' h
          go_wp2_with (at_builtin; refine wpList_append_int rfl (.tmp 69) (.tmp 70) _ rfl 3 i0 Try.underlying30 hi0 jz0 jz1 jz2 w.heap.size C c V.length V rfl (rfl) (hol.alloc _) wr.heap.size 0 rfl (by simp) (by omega) (by simp; omega) ?_; intro A' c' w' hol' hb' hg')
          go_roundw
          case rel => exact ⟨k + 1, A', c', L ++ [s[k]], V ++ [0], acc ++ s.extract k (k + 1), false, by omega, by go_num, rfl, by simp, rfl, by rw [XD.out], by rw [SZ.out]; omega, by simp [HV.out], M.out, dg_snoc HV.out _, hol', (bl_alloc hb _).trans hb'⟩
          case measure => simp [intOf]; omega
      · have E := hide (pp_none (HN.out.trans (by rw [byte_at hlt]; exact ppStep_no (by rw [data_len]; omega) (by omega))) (by rw [data_len]; omega))
        have e1 : ((s[k].toNat : Int) == 46) = true := beq_iff_eq.2 (by omega)
        have e2 : ((k : Int) == 0) = false := beq_eq_false_iff_ne.2 (by omega)
        have e3 : ((k : Int) == (s.size : Int) - 1) = false := beq_eq_false_iff_ne.2 (by omega)
        have e4 : (s[k].toNat : Int) < 49 := by omega
        clear h1 h2 h
        go_wp2
        go_ret3
        exact RetQ.no E.out hb
      · have e1 : ((s[k].toNat : Int) == 46) = false := beq_eq_false_iff_ne.2 (by omega)
        have e4 : 49 ≤ (s[k].toNat : Int) := by omega
        have e5 : (s[k].toNat : Int) ≤ 57 := by omega
        have hVl : L.length < V.length := by have := HV.out; omega
        cases dg
        · have M : Hid (ppTo s.data.toList (k + 1) = some (L, V.set L.length ((s[k].toNat : Int) - 48))) := hide (HN.out.trans (by
            rw [byte_at hlt, ppStep_digit h (by show ng V (V.length - 1) = 0; rw [HV.out, Nat.add_sub_cancel]; exact HD.out.1 rfl)]
            show some (L, V.set (V.length - 1) _) = _
            rw [HV.out, Nat.add_sub_cancel]))
          obtain ⟨b, hC, hBg, hgz, hfz⟩ := hol.frozen (by omega)
          subst hC
          obtain ⟨b', o, he, _, hc⟩ := hol.reads.at_ (i := L.length) (by omega)
          injection he with he
          cases he
          rw [Nat.zero_add] at hc
          have fz := hfz L.length
          have SS := hide (hol.set_ L.length ((s[k].toNat : Int) - 48)).1
          have hvi : (V.length : Int) - 1 = (L.length : Int) := by have := HV.out; omega
          have ND : Hid ((true = false) ↔ ng (V.set L.length ((s[k].toNat : Int) - 48)) L.length = 0) := hide (by
            rw [ng_set hVl, if_pos rfl]
            constructor
            · intro h; cases h
            · intro h; omega)
          clear h hfz hol
          go_wp2
          go_roundw
          case rel => exact ⟨k + 1, some ⟨b, 0, none⟩, c, L, _, acc, true, by omega, by go_num, rfl, by rw [List.length_set], rfl, HA.out, by omega, by rw [List.length_set]; exact HV.out, M.out, ND.out, SS.out, bl_set hb hBg _⟩
          case measure => simp [intOf]; omega
        · have E := hide (pp_none (HN.out.trans (by rw [byte_at hlt]; exact ppStep_no (by omega) (fun h' => by
            have h2 := h'.2
            rw [show V.length - 1 = L.length from by have := HV.out; omega] at h2
            exact absurd (HD.out.2 h2) (by simp)))) (by rw [data_len]; omega))
          clear h
          go_wp2
          go_ret3
          exact RetQ.no E.out hb
      all_goals
        have E := hide (pp_none (HN.out.trans (by rw [byte_at hlt]; exact ppStep_no (by omega) (by omega))) (by rw [data_len]; omega))
        have e1 : ((s[k].toNat : Int) == 46) = false := beq_eq_false_iff_ne.2 (by omega)
        (try have e4 : (s[k].toNat : Int) < 49 := by omega)
        (try have e5 : 57 < (s[k].toNat : Int) := by omega)
        (try have e6 : 49 ≤ (s[k].toNat : Int) := by omega)
        (try have e7 : (s[k].toNat : Int) < 97 := by omega)
        (try have e8 : 122 < (s[k].toNat : Int) := by omega)
        (try have e9 : 97 ≤ (s[k].toNat : Int) := by omega)
        clear h
        go_wp2
        go_ret3
        exact RetQ.no E.out hb
    · have hpe : k = s.data.toList.length := by rw [data_len]; omega
      have F := hide (show ppTo s.data.toList s.data.toList.length = some (L, V) by rw [← hpe]; exact HST.out)
      have hal : acc.size = L.length := by rw [Lib.size_eq, HA.out]
      have PS : Hid ((pp s.data.toList).isSome = inB acc.size 1 20 ∧ ∀ L' V', pp s.data.toList = some (L', V') → acc.data.toList = L' ∧ V = V') := hide (by
        rw [hal]
        by_cases h1 : 1 ≤ L.length
        · by_cases h2 : L.length ≤ 20
          · rw [pp_some F.out h1 h2]
            refine ⟨(inB_yes (by omega) (by omega)).symm, fun L' V' h => ?_⟩
            injection h with h
            injection h with ha hb
            subst ha; subst hb
            exact ⟨HA.out, rfl⟩
          · rw [pp_long F.out (Nat.le_refl _) (show 20 < L.length by omega)]
            exact ⟨(inB_no (by omega)).symm, fun L' V' h => by cases h⟩
        · rw [pp_empty F.out h1]
          exact ⟨(inB_no (by omega)).symm, fun L' V' h => by cases h⟩)
      clear hpe hal
      go_wp2_with (go_at_call 45; refine (inRange_any _ _ _ _).mono ?_; rintro e w' ⟨rfl, rfl⟩)
      go_ret3
      exact ⟨acc, C, c, V, by rw [PS.out.1]; rfl, hol, PS.out.2, hb⟩

theorem ParsePattern_s (s : ByteArray) (w : World) (hs : s.size ≤ 1048576) :
    Calls Try.prog 33 #[.string s] w (RetP w (pp s.data.toList)) := by
  cases q : pp s.data.toList with
  | none =>
    go_enter Try.func33, Try.ntmps33
    go_wp2_with fail
    refine (parsePattern_s _ _ hs).mono ?_
    rw [q]
    rintro e u1 ⟨t, A, c, V, rfl, hol, hv, hb⟩
    simp only [Option.isSome_none]
    go_wp2
    go_ret3
    exact RetP.no rfl hb
  | some r =>
    obtain ⟨L, V'⟩ := r
    go_enter Try.func33, Try.ntmps33
    go_wp2_with fail
    refine (parsePattern_s _ _ hs).mono ?_
    rw [q]
    rintro e u1 ⟨t, A, c, V, rfl, hol, hv, hb⟩
    obtain ⟨h1, rfl⟩ := hv L V' rfl
    have E := hide (show t = ⟨L.toArray⟩ by
      apply ByteArray.ext
      rw [← Array.toList_inj, h1])
    clear h1 hv
    simp only [Option.isSome_some]
    go_wp2
    go_ret3
    exact ⟨A, c, by rw [E.out]; rfl, hol, hb⟩
end Go.Proofs.Ytfcoheakecfolaa
