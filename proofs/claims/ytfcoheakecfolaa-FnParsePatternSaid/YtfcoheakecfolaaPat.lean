/- ParsePattern answers as its model does. -/
import Derived.Test.YtfcoheakecfolaaStrs
import Derived.Test.YtfcoheakecfolaaWord
import Derived.Test.YtfcoheakecfolaaBLists
import Derived.Test.YtfcoheakecfolaaPatM
namespace Go.Proofs.Ytfcoheakecfolaa
open Go.ChangeShapes Go.WideShapes Go.ChangeAt Go.RowKit
set_option linter.unusedVariables false

theorem u8_info : (Try.prog.info? 5).map (fun i => (i.zero, i.size, i.bytes)) = some (some (.int .u8 0), 1, 1) := by kernel_rfl
/-- Rows of bytes and of integers lie in different blocks. -/
theorem bi_apart {w : World} {B B' c d : Nat} {A A' : Option Addr} {l : List UInt8} {m : List Int} (h : OB w 5 B A c l) (h' : OL w 3 B' A' d m) : ∀ k, (Value.slice A l.length c).ownBlock = some k → (Value.slice A' m.length d).ownBlock ≠ some k := fun k hk hk' => by
  rcases h.2 with ⟨h1, _⟩ | ⟨g, cap, cur, h1, _, h3, _⟩
  · rw [h1] at hk; simp [Value.ownBlock] at hk
  · rw [h1] at hk; simp [Value.ownBlock] at hk; subst hk
    rcases h'.2 with ⟨h1', _⟩ | ⟨g', cap', cur', h1', _, h3', _⟩
    · rw [h1'] at hk'; simp [Value.ownBlock] at hk'
    · rw [h1'] at hk'; simp [Value.ownBlock] at hk'; subst hk'
      rw [h3] at h3'
      injection h3' with h3'
      injection h3' with _ h4
      exact absurd h4 (by decide)
theorem fold_push (l : List UInt8) (r : ByteArray) : (l.map fun c : UInt8 => (c.toNat : Int)).foldl (fun r n => r.push (UInt8.ofNat n.toNat)) r = ⟨r.data ++ l.toArray⟩ := by
  induction l generalizing r with
  | nil => simp
  | cons c l ih =>
    simp only [List.map_cons, List.foldl_cons, ih]
    apply ByteArray.ext
    simp [ByteArray.push]
/-- string(letters). -/
theorem conv_bytes {w : World} {B c : Nat} {A : Option Addr} {l : List UInt8} (h : OB w 5 B A c l) (h0 : 0 < l.length) : (convert 22 9 (.slice A l.length c)).run Try.prog w = .ok (.string ⟨l.toArray⟩) w := by
  obtain ⟨g, rfl, _⟩ := h.form h0
  have hc : ∀ j u, (l.map bv)[j]? = some u → w.cell? ((⟨g, 0, none⟩ : Addr).add j) = some u := World.ownsRow.cells h (g := g) rfl
  have hl := run_loadCells_list (P := Try.prog) w ⟨g, 0, none⟩ (l.map bv) hc
  rw [run_convert_bytes_string _ 22 9 5 _ _ _ Try.underlying22 Try.underlying5 Try.underlying9, run_bytesToString _ _ l.length c (l.map fun c : UInt8 => (c.toNat : Int))]
  · rw [fold_push]
    congr 2
    apply ByteArray.ext
    simp
  · rw [List.length_map] at hl
    rw [hl]
    simp [bv, Function.comp_def]

/-- The k-th byte of a text. -/
theorem byte_at {s : ByteArray} {k : Nat} (h : k < s.size) : s.data.toList.getD k 0 = s[k] := by
  rw [List.getD_eq_getElem?_getD, List.getElem?_eq_getElem (by simpa using h)]
  rfl
theorem data_len (s : ByteArray) : s.data.toList.length = s.size := by simp

/-- What ParsePattern leaves. -/
def RetP (w : World) (r : Option (List UInt8 × List Int)) (e : Ending) (w' : World) : Prop := ∃ A c, e = .returned (.tuple #[.string ⟨((r.map (·.1)).getD []).toArray⟩, .slice A ((r.map (·.2)).getD []).length c, .bool r.isSome]) ∧ OL w' 3 w.heap.size A c ((r.map (·.2)).getD []) ∧ Below w.heap.size w w'
theorem RetP.no {w w' : World} {r : Option (List UInt8 × List Int)} (h : r = none) (hb : Below w.heap.size w w') : RetP w r (.returned (.tuple #[.string ⟨#[]⟩, .slice none 0 0, .bool false])) w' := by
  subst h
  exact ⟨none, 0, rfl, OL.nil _ _ _, hb⟩

set_option maxHeartbeats 2000000 in
theorem ParsePattern_i (s : ByteArray) (w : World) (hs : s.size ≤ 4611686018427387904) :
    Calls Try.prog 32 #[.string s] w (RetP w (pp s.data.toList)) := by
  obtain ⟨i0, hi0, jz0, jz1, jz2⟩ := info_parts int_info
  obtain ⟨ib, hib, kz0, kz1, kz2⟩ := info_parts u8_info
  have H0 : Hid (OL (w.alloc (.cells #[.int .i64 0] 3)) 3 w.heap.size (some ⟨w.heap.size, 0, none⟩) 1 [0]) := hide (by
    have := OL.lit (w := w) (e := 3) (B := w.heap.size) (Nat.le_refl _) [0] (by unfold maxLen; simp)
    simpa using this)
  go_enter Try.func32, Try.ntmps32
  go_wp2
  go_loopw [12, 5, 6] (fun i x v u => ∃ (k : Nat) (A C : Option Addr) (a c : Nat) (L : List UInt8) (V : List Int), k ≤ s.size ∧ i = .int .i64 k ∧ x = .slice A L.length a ∧ v = .slice C V.length c ∧ L.length ≤ 20 ∧ V.length = L.length + 1 ∧ ppTo s.data.toList k = some (L, V) ∧ OB u 5 w.heap.size A a L ∧ OL u 3 w.heap.size C c V ∧ Below w.heap.size w u) (fun i _ _ _ => s.size - (intOf i).toNat)
  case atStart => exact ⟨0, none, _, 0, _, [], [0], by omega, rfl, rfl, rfl, by simp, rfl, rfl, OB.nil _ _ _, H0.out, bl_alloc (bl_refl _) _⟩
  case round =>
    obtain ⟨k, A, C, a, c, L, V, hk, rfl, rfl, rfl, hL, hV, hst, hob, hol, hb⟩ := hrel
    have HST := hide hst
    have HV := hide hV
    have hz1 : w.heap.size ≤ wr.heap.size := hb.size
    have AP := hide (bi_apart hob hol)
    clear hst hV
    by_cases hlt : k < s.size
    · have hb8 : s[k].toNat < 256 := UInt8.toNat_lt _
      have HN := hide (ppTo_succ HST.out)
      have hV2 : V.length ≤ 22 := by have := HV.out; omega
      rcases (by omega : (97 ≤ s[k].toNat ∧ s[k].toNat ≤ 122) ∨ (s[k].toNat = 46 ∧ (k = 0 ∨ k ≠ 0 ∧ k + 1 = s.size)) ∨ (s[k].toNat = 46 ∧ k ≠ 0 ∧ k + 1 ≠ s.size) ∨ (49 ≤ s[k].toNat ∧ s[k].toNat ≤ 57) ∨ (s[k].toNat < 49 ∧ s[k].toNat ≠ 46) ∨ (57 < s[k].toNat ∧ s[k].toNat < 97) ∨ 122 < s[k].toNat) with h | ⟨h, h'⟩ | ⟨h, h1, h2⟩ | h | h | h | h
      · have M : Hid (ppTo s.data.toList (k + 1) = some (L ++ [s[k]], V ++ [0])) := hide (HN.out.trans (by rw [byte_at hlt]; exact ppStep_char (.inl h)))
        have q : inB (s[k].toNat : Int) 97 122 = true := inB_yes (by omega) (by omega)
        rcases (by omega : L.length < 20 ∨ L.length = 20) with g | g
        · go_wp2_with (first | (go_at_call 56; refine (isLetter_i _ _ (by omega) (by omega)).mono ?_; rintro e w' ⟨rfl, rfl⟩) | ((at_builtin; refine wpList_append_byte rfl (.tmp 36) (.tmp 38) _ rfl 5 ib Try.underlying22 hib kz0 kz1 kz2 w.heap.size A a L.length L rfl (rfl) (hob.alloc _) wr.heap.size s[k] rfl (by simp) (by omega) (by simp; omega) ?_; intro A1 c1 w1 hob1 hb1 hg1); have holv := (hol.alloc (.cells #[.int .u8 s[k].toNat] 5)).kept hg1 (fun k hk hr => AP.out k hr hk); have hz2 := hb1.size; simp at hz2) | (at_builtin; refine wpList_append_int rfl (.tmp 40) (.tmp 41) _ rfl 3 i0 Try.underlying30 hi0 jz0 jz1 jz2 w.heap.size C c V.length V rfl (rfl) (holv.alloc _) w1.heap.size 0 rfl (by simp) (by omega) (by simp; omega) ?_; intro A' c' w' hol' hb' hg'))
          go_roundw
          case rel => exact ⟨k + 1, A1, A', c1, c', L ++ [s[k]], V ++ [0], by omega, by go_num, by simp, by simp, by simp; omega, by simp [HV.out], M.out, (hob1.alloc _).kept hg' (fun x hx hr => bi_apart hob1 holv x hx hr), hol', (bl_alloc ((bl_alloc hb _).trans hb1) _).trans hb'⟩
          case measure => simp [intOf]; omega
        · have E := hide (pp_long M.out (by rw [data_len]; omega) (by simp; omega))
          have g1 : 20 ≤ L.length := by omega
          clear g
          go_wp2_with (first | (go_at_call 56; refine (isLetter_i _ _ (by omega) (by omega)).mono ?_; rintro e w' ⟨rfl, rfl⟩) | ((at_builtin; refine wpList_append_byte rfl (.tmp 36) (.tmp 38) _ rfl 5 ib Try.underlying22 hib kz0 kz1 kz2 w.heap.size A a L.length L rfl (rfl) (hob.alloc _) wr.heap.size s[k] rfl (by simp) (by omega) (by simp; omega) ?_; intro A1 c1 w1 hob1 hb1 hg1); have holv := (hol.alloc (.cells #[.int .u8 s[k].toNat] 5)).kept hg1 (fun k hk hr => AP.out k hr hk); have hz2 := hb1.size; simp at hz2) | (at_builtin; refine wpList_append_int rfl (.tmp 40) (.tmp 41) _ rfl 3 i0 Try.underlying30 hi0 jz0 jz1 jz2 w.heap.size C c V.length V rfl (rfl) (holv.alloc _) w1.heap.size 0 rfl (by simp) (by omega) (by simp; omega) ?_; intro A' c' w' hol' hb' hg'))
          go_ret3
          exact RetP.no E.out ((bl_alloc ((bl_alloc hb _).trans hb1) _).trans hb')
      · have M : Hid (ppTo s.data.toList (k + 1) = some (L ++ [s[k]], V ++ [0])) := hide (HN.out.trans (by rw [byte_at hlt]; exact ppStep_char (.inr ⟨h, (data_len s).symm ▸ (show k = 0 ∨ k + 1 = s.size from by omega)⟩)))
        have q : inB (s[k].toNat : Int) 97 122 = false := inB_no (by omega)
        have e1 : ((s[k].toNat : Int) == 46) = true := beq_iff_eq.2 (by omega)
        rcases h' with rfl | h'
        · clear h
          rcases (by omega : L.length < 20 ∨ L.length = 20) with g | g
          · go_wp2_with (first | (go_at_call 56; refine (isLetter_i _ _ (by omega) (by omega)).mono ?_; rintro e w' ⟨rfl, rfl⟩) | ((at_builtin; refine wpList_append_byte rfl (.tmp 36) (.tmp 38) _ rfl 5 ib Try.underlying22 hib kz0 kz1 kz2 w.heap.size A a L.length L rfl (rfl) (hob.alloc _) wr.heap.size s[0] rfl (by simp) (by omega) (by simp; omega) ?_; intro A1 c1 w1 hob1 hb1 hg1); have holv := (hol.alloc (.cells #[.int .u8 s[0].toNat] 5)).kept hg1 (fun k hk hr => AP.out k hr hk); have hz2 := hb1.size; simp at hz2) | (at_builtin; refine wpList_append_int rfl (.tmp 40) (.tmp 41) _ rfl 3 i0 Try.underlying30 hi0 jz0 jz1 jz2 w.heap.size C c V.length V rfl (rfl) (holv.alloc _) w1.heap.size 0 rfl (by simp) (by omega) (by simp; omega) ?_; intro A' c' w' hol' hb' hg'))
            go_roundw
            case rel => exact ⟨0 + 1, A1, A', c1, c', L ++ [s[0]], V ++ [0], by omega, by go_num, by simp, by simp, by simp; omega, by simp [HV.out], M.out, (hob1.alloc _).kept hg' (fun x hx hr => bi_apart hob1 holv x hx hr), hol', (bl_alloc ((bl_alloc hb _).trans hb1) _).trans hb'⟩
            case measure => simp [intOf]; omega
          · have E := hide (pp_long M.out (by rw [data_len]; omega) (by simp; omega))
            have g1 : 20 ≤ L.length := by omega
            clear g
            go_wp2_with (first | (go_at_call 56; refine (isLetter_i _ _ (by omega) (by omega)).mono ?_; rintro e w' ⟨rfl, rfl⟩) | ((at_builtin; refine wpList_append_byte rfl (.tmp 36) (.tmp 38) _ rfl 5 ib Try.underlying22 hib kz0 kz1 kz2 w.heap.size A a L.length L rfl (rfl) (hob.alloc _) wr.heap.size s[0] rfl (by simp) (by omega) (by simp; omega) ?_; intro A1 c1 w1 hob1 hb1 hg1); have holv := (hol.alloc (.cells #[.int .u8 s[0].toNat] 5)).kept hg1 (fun k hk hr => AP.out k hr hk); have hz2 := hb1.size; simp at hz2) | (at_builtin; refine wpList_append_int rfl (.tmp 40) (.tmp 41) _ rfl 3 i0 Try.underlying30 hi0 jz0 jz1 jz2 w.heap.size C c V.length V rfl (rfl) (holv.alloc _) w1.heap.size 0 rfl (by simp) (by omega) (by simp; omega) ?_; intro A' c' w' hol' hb' hg'))
            go_ret3
            exact RetP.no E.out ((bl_alloc ((bl_alloc hb _).trans hb1) _).trans hb')
        · have e3 : ((k : Int) == (s.size : Int) - 1) = true := beq_iff_eq.2 (by omega)
          have e2 : ((k : Int) == 0) = false := beq_eq_false_iff_ne.2 (by omega)
          clear h' h
          rcases (by omega : L.length < 20 ∨ L.length = 20) with g | g
          · go_wp2_with (first | (go_at_call 56; refine (isLetter_i _ _ (by omega) (by omega)).mono ?_; rintro e w' ⟨rfl, rfl⟩) | ((at_builtin; refine wpList_append_byte rfl (.tmp 36) (.tmp 38) _ rfl 5 ib Try.underlying22 hib kz0 kz1 kz2 w.heap.size A a L.length L rfl (rfl) (hob.alloc _) wr.heap.size s[k] rfl (by simp) (by omega) (by simp; omega) ?_; intro A1 c1 w1 hob1 hb1 hg1); have holv := (hol.alloc (.cells #[.int .u8 s[k].toNat] 5)).kept hg1 (fun k hk hr => AP.out k hr hk); have hz2 := hb1.size; simp at hz2) | (at_builtin; refine wpList_append_int rfl (.tmp 40) (.tmp 41) _ rfl 3 i0 Try.underlying30 hi0 jz0 jz1 jz2 w.heap.size C c V.length V rfl (rfl) (holv.alloc _) w1.heap.size 0 rfl (by simp) (by omega) (by simp; omega) ?_; intro A' c' w' hol' hb' hg'))
            go_roundw
            case rel => exact ⟨k + 1, A1, A', c1, c', L ++ [s[k]], V ++ [0], by omega, by go_num, by simp, by simp, by simp; omega, by simp [HV.out], M.out, (hob1.alloc _).kept hg' (fun x hx hr => bi_apart hob1 holv x hx hr), hol', (bl_alloc ((bl_alloc hb _).trans hb1) _).trans hb'⟩
            case measure => simp [intOf]; omega
          · have E := hide (pp_long M.out (by rw [data_len]; omega) (by simp; omega))
            have g1 : 20 ≤ L.length := by omega
            clear g
            go_wp2_with (first | (go_at_call 56; refine (isLetter_i _ _ (by omega) (by omega)).mono ?_; rintro e w' ⟨rfl, rfl⟩) | ((at_builtin; refine wpList_append_byte rfl (.tmp 36) (.tmp 38) _ rfl 5 ib Try.underlying22 hib kz0 kz1 kz2 w.heap.size A a L.length L rfl (rfl) (hob.alloc _) wr.heap.size s[k] rfl (by simp) (by omega) (by simp; omega) ?_; intro A1 c1 w1 hob1 hb1 hg1); have holv := (hol.alloc (.cells #[.int .u8 s[k].toNat] 5)).kept hg1 (fun k hk hr => AP.out k hr hk); have hz2 := hb1.size; simp at hz2) | (at_builtin; refine wpList_append_int rfl (.tmp 40) (.tmp 41) _ rfl 3 i0 Try.underlying30 hi0 jz0 jz1 jz2 w.heap.size C c V.length V rfl (rfl) (holv.alloc _) w1.heap.size 0 rfl (by simp) (by omega) (by simp; omega) ?_; intro A' c' w' hol' hb' hg'))
            go_ret3
            exact RetP.no E.out ((bl_alloc ((bl_alloc hb _).trans hb1) _).trans hb')
      · have E := hide (pp_none (HN.out.trans (by rw [byte_at hlt]; exact ppStep_no (by rw [data_len]; omega) (by omega))) (by rw [data_len]; omega))
        have q : inB (s[k].toNat : Int) 97 122 = false := inB_no (by omega)
        have e1 : ((s[k].toNat : Int) == 46) = true := beq_iff_eq.2 (by omega)
        have e2 : ((k : Int) == 0) = false := beq_eq_false_iff_ne.2 (by omega)
        have e3 : ((k : Int) == (s.size : Int) - 1) = false := beq_eq_false_iff_ne.2 (by omega)
        have e4 : (s[k].toNat : Int) < 49 := by omega
        clear h1 h2
        go_wp2_with (go_at_call 56; refine (isLetter_i _ _ (by omega) (by omega)).mono ?_; rintro e w' ⟨rfl, rfl⟩)
        go_ret3
        exact RetP.no E.out hb
      · have q : inB (s[k].toNat : Int) 97 122 = false := inB_no (by omega)
        have e1 : ((s[k].toNat : Int) == 46) = false := beq_eq_false_iff_ne.2 (by omega)
        have e4 : 49 ≤ (s[k].toNat : Int) := by omega
        have e5 : (s[k].toNat : Int) ≤ 57 := by omega
        obtain ⟨b, hC, hBg, hgz, hfz⟩ := hol.frozen (by have := HV.out; omega)
        subst hC
        obtain ⟨b', o, he, _, hc⟩ := hol.reads.at_ (i := L.length) (by have := HV.out; omega)
        injection he with he
        cases he
        rw [Nat.zero_add] at hc
        have fz := hfz L.length
        have hVl : L.length < V.length := by have := HV.out; omega
        obtain ⟨y, hy⟩ : ∃ y, y = ng V L.length := ⟨_, rfl⟩
        rw [← hy] at hc
        have HY := hide hy
        clear hfz hy
        by_cases h0 : y = 0
        · have M : Hid (ppTo s.data.toList (k + 1) = some (L, V.set L.length ((s[k].toNat : Int) - 48))) := hide (HN.out.trans (by
            rw [byte_at hlt, ppStep_digit h (by show ng V (V.length - 1) = 0; rw [HV.out, Nat.add_sub_cancel, ← HY.out]; exact h0)]
            show some (L, V.set (V.length - 1) _) = _
            rw [HV.out, Nat.add_sub_cancel]))
          have SS := hide (hol.set_ L.length ((s[k].toNat : Int) - 48))
          have SB := hide (hob.kept SS.out.2 (fun x hx hr => AP.out x hx (by simpa [Value.ownBlock] using hr)))
          have y0 : (y == 0) = true := by simp [h0]
          have hgt : ¬ 20 < L.length := by omega
          clear h0 hob hol
          go_wp2_with (go_at_call 56; refine (isLetter_i _ _ (by omega) (by omega)).mono ?_; rintro e w' ⟨rfl, rfl⟩)
          go_roundw
          case rel => exact ⟨k + 1, A, some ⟨b, 0, none⟩, a, c, L, _, by omega, by go_num, rfl, by rw [List.length_set], by omega, by rw [List.length_set]; exact HV.out, M.out, SB.out, SS.out.1, bl_set hb hBg _⟩
          case measure => simp [intOf]; omega
        · have E := hide (pp_none (HN.out.trans (by rw [byte_at hlt]; exact ppStep_no (by rw [data_len]; omega) (fun h' => h0 (by rw [HY.out]; have := h'.2; rw [show V.length - 1 = L.length from by have := HV.out; omega] at this; exact this)))) (by rw [data_len]; omega))
          have y0 : (y == 0) = false := by simp [h0]
          clear h0
          go_wp2_with (go_at_call 56; refine (isLetter_i _ _ (by omega) (by omega)).mono ?_; rintro e w' ⟨rfl, rfl⟩)
          go_ret3
          exact RetP.no E.out hb
      all_goals
        have E := hide (pp_none (HN.out.trans (by rw [byte_at hlt]; exact ppStep_no (by omega) (by omega))) (by rw [data_len]; omega))
        have q : inB (s[k].toNat : Int) 97 122 = false := inB_no (by omega)
        have e1 : ((s[k].toNat : Int) == 46) = false := beq_eq_false_iff_ne.2 (by omega)
        (try have e4 : (s[k].toNat : Int) < 49 := by omega)
        (try have e5 : 57 < (s[k].toNat : Int) := by omega)
        (try have e6 : 49 ≤ (s[k].toNat : Int) := by omega)
        go_wp2_with (go_at_call 56; refine (isLetter_i _ _ (by omega) (by omega)).mono ?_; rintro e w' ⟨rfl, rfl⟩)
        go_ret3
        exact RetP.no E.out hb
    · have hpe : k = s.data.toList.length := by rw [data_len]; omega
      have F := hide (show ppTo s.data.toList s.data.toList.length = some (L, V) by rw [← hpe]; exact HST.out)
      clear hpe
      rcases Nat.eq_zero_or_pos L.length with h0 | h0
      · have E := hide (pp_empty F.out (by rw [h0]; omega))
        rw [h0]
        go_wp2
        go_ret3
        exact RetP.no E.out hb
      · have E := hide (pp_some F.out h0 hL)
        have hcv := conv_bytes hob h0
        have hl0 : ((L.length : Int) == 0) = false := by simp; intro h; rw [h] at h0; simp at h0
        go_wp2
        go_ret3
        exact ⟨C, c, by rw [E.out]; rfl, by rw [E.out]; exact hol, hb⟩
end Go.Proofs.Ytfcoheakecfolaa
