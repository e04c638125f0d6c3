/- Roman numerals: what the functions answer, in the program and in its model. -/
import Derived.Test.YtonkbakoifdmiaaDoorNum
import Derived.Lib.AppendStr
import Derived.Deep.MidRow
namespace Go.Proofs.YtonkbakoifdmiaaDoor
open Go.ChangeShapes Go.WideShapes Go.ChangeAt Go.RowKit
set_option linter.unusedVariables false

def rpB : List ByteArray := [bs [109], bs [99, 109], bs [100], bs [99, 100], bs [99], bs [120, 99], bs [108], bs [120, 108], bs [120], bs [105, 120], bs [118], bs [105, 118], bs [105]]
def rpI : List Int := [1000, 900, 500, 400, 100, 90, 50, 40, 10, 9, 5, 4, 1]
theorem rpB_get {k : Nat} (h : k < 13) : sg rpB k = bs (rpT k) := by
  have : ∀ k : Fin 13, sg rpB k = bs (rpT k) := by
    intro ⟨k, h⟩
    match k, h with
    | 0, _ => rfl | 1, _ => rfl | 2, _ => rfl | 3, _ => rfl | 4, _ => rfl | 5, _ => rfl | 6, _ => rfl | 7, _ => rfl | 8, _ => rfl | 9, _ => rfl | 10, _ => rfl | 11, _ => rfl | 12, _ => rfl
  exact this ⟨k, h⟩
theorem rpI_get {k : Nat} (h : k < 13) : ng rpI k = (rpV k : Int) := by
  have : ∀ k : Fin 13, ng rpI k = (rpV k : Int) := by decide
  exact this ⟨k, h⟩
theorem romN_no {n : Int} (h : inB n 1 3999 = false) : romN n = [] := by
  unfold romN; rw [if_neg]; intro k; rw [← inB_iff, h] at k; cases k
theorem romN_yes {m : Nat} (h : 1 ≤ m ∧ m ≤ 3999) : romN (m : Int) = rom 0 m := by
  unfold romN; rw [if_pos (by omega), Int.toNat_natCast]

theorem romanParts_s (w : World) :
    Calls Tryd.prog 34 #[] w fun e w' => ∃ (A C : Option Addr), e = .returned (.tuple #[.slice A 13 13, .slice C 13 13]) ∧ SL w' A 13 rpB ∧ IL w' C 13 rpI ∧ Below w.heap.size w w' := by
  go_enter Tryd.func34, Tryd.ntmps34
  go_wp2
  go_ret2
  refine ⟨_, _, rfl, ?_, ?_, ?_⟩
  · have := (OS.lit (w := w) (e := 9) (B := w.heap.size) (Nat.le_refl _) rpB (by decide)).reads
    exact this.alloc _
  · refine (show IL ((w.alloc (.cells (rpB.map Value.string).toArray 9)).alloc (.cells (rpI.map (Value.int .i64)).toArray 3)) (some ⟨w.heap.size + 1, 0, none⟩) 13 rpI from ?_)
    have := (OL.lit (w := w.alloc (.cells (rpB.map Value.string).toArray 9)) (e := 3) (B := 0) (by omega) rpI (by decide)).reads
    simpa [show rpI.length = 13 from rfl] using this
  · exact bl_alloc (bl_alloc (bl_refl _) _) _

theorem roman_s (m0 : Nat) (w : World) (h : m0 ≤ 3999) :
    Calls Tryd.prog 21 #[.int .i64 m0] w fun e w' => e = .returned (.string (bs (rom 0 m0))) ∧ Below w.heap.size w w' := by
  go_enter Tryd.func21, Tryd.ntmps21
  go_wp2_with fail
  refine (romanParts_s _).mono ?_
  rintro e u1 ⟨A, C, rfl, hs, hi, hb⟩
  go_wp2
  go_loop [0, 5, 6] (fun x v i => ∃ (m k : Nat) (acc : ByteArray), m ≤ 3999 ∧ k ≤ 13 ∧ x = .int .i64 m ∧ v = .string acc ∧ i = .int .i64 k ∧ acc.data.toList ++ rom k m = rom 0 m0 ∧ acc.size + m ≤ 3999) (fun _ _ i => 13 - (intOf i).toNat)
  case atStart => exact ⟨m0, 0, ⟨#[]⟩, h, by omega, rfl, rfl, rfl, rfl, by simpa [ByteArray.size] using h⟩
  case round =>
    obtain ⟨m, k, acc, hm, hk, rfl, rfl, rfl, hac, hal⟩ := hrel
    have HA := hide hac
    clear hac
    by_cases hlt : k < 13
    · obtain ⟨v0, v1, t0, t1, t2⟩ := rp_facts hlt
      obtain ⟨b, o, rfl, _, hc⟩ := hi.at_ hlt
      obtain ⟨b', o', rfl, _, hc'⟩ := hs.at_ hlt
      rw [rpI_get hlt] at hc
      rw [rpB_get hlt] at hc'
      obtain ⟨V, hV⟩ : ∃ V, V = rpV k := ⟨_, rfl⟩
      obtain ⟨T, hT⟩ : ∃ T, T = bs (rpT k) := ⟨_, rfl⟩
      have HT := hide (show T.data.toList = rpT k by rw [hT, bs_data])
      have TS := hide (show T.size = (rpT k).length by rw [hT, bs_size])
      have ts : T.size ≤ 2 := by rw [TS.out]; exact t2
      have tv : T.size ≤ V := by rw [TS.out, hV]; exact t1
      rw [← hV] at hc v0 v1
      rw [← hT] at hc'
      have HV := hide hV
      clear hV hT t0 t1 t2
      go_wp2
      go_loop [0, 5] (fun x v => ∃ (m : Nat) (acc : ByteArray), m ≤ 3999 ∧ x = .int .i64 m ∧ v = .string acc ∧ acc.data.toList ++ rom k m = rom 0 m0 ∧ acc.size + m ≤ 3999) (fun x _ => (intOf x).toNat)
      case atStart => exact ⟨m, acc, hm, rfl, rfl, HA.out, hal⟩
      case round =>
        obtain ⟨m, acc, hm, rfl, rfl, hac, hal⟩ := hrel
        have HA := hide hac
        clear hac
        by_cases hv : V ≤ m
        · have M := hide (show (acc ++ T).data.toList ++ rom k (m - V) = rom 0 m0 by
            have R := rom_take hlt (n := m) (by rw [← HV.out]; exact hv)
            rw [← HV.out] at R
            rw [← HA.out, R, ← HT.out]; simp)
          go_wp2
          go_round
          case rel => exact ⟨m - V, acc ++ T, by omega, by go_num, rfl, M.out, by rw [ByteArray.size_append]; omega⟩
          case measure => simp [intOf]; omega
        · have M := hide (show acc.data.toList ++ rom (k + 1) m = rom 0 m0 by
            rw [← HA.out, rom_skip hlt (by rw [← HV.out]; omega)])
          go_wp2
          go_round
          case rel => exact ⟨m, k + 1, acc, by omega, by omega, rfl, rfl, by go_num, M.out, hal⟩
          case measure => simp [intOf]; omega
    · obtain rfl : k = 13 := by omega
      have E := hide (bs_eq (l := rom 0 m0) (by simpa [rom_end] using HA.out))
      go_wp2
      go_ret
      exact ⟨str_ret E.out, hb⟩

theorem Roman_s (n : Int) (w : World) :
    Calls Tryd.prog 10 #[.int .i64 n] w fun e w' => e = .returned (.string (bs (romN n))) ∧ Below w.heap.size w w' := by
  cases q : inB n 1 3999
  · have E := hide (congrArg bs (romN_no q))
    go_enter Tryd.func10, Tryd.ntmps10
    go_wp2_with (go_at_call 20; refine (inRange_any _ _ _ _).mono ?_; rintro e w' ⟨rfl, rfl⟩)
    go_ret
    exact ⟨str_ret E.out.symm, bl_refl _⟩
  · obtain ⟨q0, q1⟩ := inB_iff.1 q
    obtain ⟨m, rfl⟩ := Int.eq_ofNat_of_zero_le (show 0 ≤ n by omega)
    have E := hide (congrArg bs (romN_yes (m := m) (by omega)))
    go_enter Tryd.func10, Tryd.ntmps10
    go_wp2_with (first | (go_at_call 20; refine (inRange_any _ _ _ _).mono ?_; rintro e w' ⟨rfl, rfl⟩))
    refine (roman_s _ _ (by omega)).mono ?_
    rintro e u1 ⟨rfl, hb⟩
    go_wp2
    go_ret
    exact ⟨str_ret E.out.symm, hb⟩

/-- append of a text to a slice of bytes that the call made. -/
theorem wpList_append_text {P : Program} {ops : Array Oper} {rest : List Oper} {o : Oper} {a : Act} {Q : Exit → Act → World → Prop} {w : World} (hgd : o.guard = none) (s x : Operand) (t t' : TypeId)
    (ho : o.op = .call { callee := .builtin .append, args := #[s, x], argTypes := #[t, t'] })
    (e : TypeId) (i : TypeInfo) (ht : P.underlying t = some (.slice e)) (hu : P.underlying t' = some .string) (hi : P.info? e = some i) (hz : i.zero = some (.int .u8 0)) (hsize : i.size = 1) (hby : i.bytes = 1)
    (B : Nat) (A : Option Addr) (c n : Nat) (l : List UInt8) (hs : a.eval s = .slice A n c) (hn : n = l.length) (hown : OB w e B A c l)
    (z : ByteArray) (hx : a.eval x = .string z) (hlen : n + z.size ≤ 1000000000000) (hB : B ≤ w.heap.size)
    (h : ∀ A' c' w', OB w' e B A' c' (l ++ z.data.toList) → Below B w w' → w.grownBy w' (Value.slice A n c).ownBlock → wpList P ops Q rest (a.put o.dst (.slice A' (n + z.size) c')) w') : wpList P ops Q (o :: rest) a w := by
  subst hn
  refine Lib.wpList_append_own_string w hgd s x t t' ho B e i ht hu hi hz hsize hby _ l.length (l.map bv) hs hown z hx (by unfold maxLen; omega) (by omega) hB ?_
  intro v' w' hown' hgr _
  obtain ⟨A', c', rfl, hl, hol⟩ := OB.of_own (l := l ++ z.data.toList) hown' (by simp [Lib.strCells])
  exact h A' c' w' hol ((Below.refl _ _).grown hgr hB (fun k hk => (hown.own_lt k hk).1)) hgr

theorem ob_ne {w : World} {e t : TypeId} {B c g : Nat} {A : Option Addr} {l : List UInt8} {cs : Array Value} {fr : Nat × Nat} (h : OB w e B A c l) (hP : w.heap[g]? = some (.cells cs t fr)) (hne : t ≠ e) : ∀ k, (Value.slice A l.length c).ownBlock = some k → k ≠ g := fun k hk hk' => by
  subst hk'
  rcases h.2 with ⟨h1, _⟩ | ⟨g', cap, cur, h1, _, h3, _⟩
  · rw [h1] at hk; simp [Value.ownBlock] at hk
  · rw [h1] at hk; simp [Value.ownBlock] at hk; subst hk
    rw [h3] at hP
    injection hP with hP
    injection hP with _ h4
    exact hne h4.symm
/-- The table of the parts, as the program's variable holds it. -/
def RT : List Value := [.int .i64 1000, .string (bs [109]), .int .i64 900, .string (bs [99, 109]), .int .i64 500, .string (bs [100]), .int .i64 400, .string (bs [99, 100]), .int .i64 100, .string (bs [99]), .int .i64 90, .string (bs [120, 99]), .int .i64 50, .string (bs [108]), .int .i64 40, .string (bs [120, 108]), .int .i64 10, .string (bs [120]), .int .i64 9, .string (bs [105, 120]), .int .i64 5, .string (bs [118]), .int .i64 4, .string (bs [105, 118]), .int .i64 1, .string (bs [105])]
def RomT (w : World) : Prop := w.rangeAt 0 0 RT
theorem RT_get {k : Nat} (h : k < 13) (W : World) : (Instr.index 38 (.agg RT.toArray) (.int .i64 k)).run Tryd.prog W = .ok (.agg #[.int .i64 (rpV k), .string (bs (rpT k))]) W :=
  match k, h with
  | 0, _ => by kernel_rfl
  | 1, _ => by kernel_rfl
  | 2, _ => by kernel_rfl
  | 3, _ => by kernel_rfl
  | 4, _ => by kernel_rfl
  | 5, _ => by kernel_rfl
  | 6, _ => by kernel_rfl
  | 7, _ => by kernel_rfl
  | 8, _ => by kernel_rfl
  | 9, _ => by kernel_rfl
  | 10, _ => by kernel_rfl
  | 11, _ => by kernel_rfl
  | 12, _ => by kernel_rfl

theorem Roman_i (n : Int) (w : World) (hT : RomT w) :
    Calls Tryd.prog 11 #[.int .i64 n] w fun e w' => e = .returned (.string (bs (romN n))) ∧ Below w.heap.size w w' := by
  cases q : inB n 1 3999
  · have E := hide (congrArg bs (romN_no q))
    go_enter Tryd.func11, Tryd.ntmps11
    go_wp2_with (go_at_call 22; refine (validNumeral_i _ _).mono ?_; rintro e w' ⟨rfl, rfl⟩)
    go_ret
    exact ⟨str_ret E.out.symm, bl_refl _⟩
  · obtain ⟨q0, q1⟩ := inB_iff.1 q
    obtain ⟨m0, rfl⟩ := Int.eq_ofNat_of_zero_le (show 0 ≤ n by omega)
    have E := hide (congrArg bs (romN_yes (m := m0) (by omega)))
    have hix0 := fun (k : Nat) (h : k < 13) (W : World) => RT_get h W
    have HX := hide hix0
    clear hix0
    obtain ⟨ib, hib, kz0, kz1, kz2⟩ := info_parts u8_info
    go_enter Tryd.func11, Tryd.ntmps11
    go_wp2_with (first | (go_at_call 22; refine (validNumeral_i _ _).mono ?_; rintro e w' ⟨rfl, rfl⟩) | (refine wpList_load_mid rfl 38 (.global 0) rfl 0 0 rfl RT (.array 13 37) hT Tryd.underlying38 rfl (by kernel_rfl) ?_))
    generalize RT.toArray = RA at HX ⊢
    go_loopw [0, 3, 10] (fun x v i u => ∃ (m k : Nat) (A : Option Addr) (c : Nat) (L : List UInt8), m ≤ 3999 ∧ k ≤ 13 ∧ x = .int .i64 m ∧ v = .slice A L.length c ∧ i = .int .i64 k ∧ L ++ rom k m = rom 0 m0 ∧ L.length + m ≤ 3999 ∧ OB u 5 w.heap.size A c L ∧ Below w.heap.size w u) (fun _ _ i _ => 13 - (intOf i).toNat)
    case atStart => exact ⟨m0, 0, none, 0, [], by omega, by omega, rfl, rfl, rfl, rfl, by simp; omega, OB.nil _ _ _, bl_refl _⟩
    case round =>
      obtain ⟨m, k, A, c, L, hm, hk, rfl, rfl, rfl, hac, hal, hob, hb⟩ := hrel
      have HA := hide hac
      have hz1 : w.heap.size ≤ wr.heap.size := hb.size
      clear hac
      by_cases hlt : k < 13
      · have hix := HX.out k hlt
        obtain ⟨v0, v1, t0, t1, t2⟩ := rp_facts hlt
        obtain ⟨V, hV⟩ : ∃ V, V = rpV k := ⟨_, rfl⟩
        obtain ⟨T, hT⟩ : ∃ T, T = bs (rpT k) := ⟨_, rfl⟩
        have HT := hide (show T.data.toList = rpT k by rw [hT, bs_data])
        have TS := hide (show T.size = (rpT k).length by rw [hT, bs_size])
        have ts : T.size ≤ 2 := by rw [TS.out]; exact t2
        have tv : T.size ≤ V := by rw [TS.out, hV]; exact t1
        rw [← hV, ← hT] at hix
        rw [← hV] at v0 v1
        have HV := hide hV
        have dk : decide ((k : Int) < 13) = true := decide_eq_true (by omega)
        clear hV hT t0 t1 t2
        go_wp2
        go_loopw [0, 3] (fun x v u => ∃ (m : Nat) (A : Option Addr) (c : Nat) (L : List UInt8), m ≤ 3999 ∧ x = .int .i64 m ∧ v = .slice A L.length c ∧ L ++ rom k m = rom 0 m0 ∧ L.length + m ≤ 3999 ∧ OB u 5 w.heap.size A c L ∧ u.heap[wr.heap.size]? = some (.cells #[.int .i64 V, .string T] 37 (0, 0)) ∧ Below w.heap.size w u) (fun x _ _ => (intOf x).toNat)
        case atStart => exact ⟨m, A, c, L, hm, rfl, rfl, HA.out, hal, hob.alloc _, heap_alloc_new _ _, bl_alloc hb _⟩
        case round =>
          obtain ⟨m, A, c, L, hm, rfl, rfl, hac, hal, hob, hP, hb⟩ := hrel
          have HA := hide hac
          have hz1 : w.heap.size ≤ wr.heap.size := hb.size
          have NE := hide (ob_ne hob hP (by decide))
          have hPl : _ < wr.heap.size := (Array.getElem?_eq_some_iff.1 hP).1
          have p0 := cell_of_row wr _ 0 _ _ _ hP
          have p1 := cell_of_row wr _ 1 _ _ _ hP
          simp only [List.getElem?_toArray, List.getElem?_cons_zero, List.getElem?_cons_succ] at p0 p1
          have HP := hide hP
          clear hac hP
          by_cases hv : V ≤ m
          · have M := hide (show (L ++ T.data.toList) ++ rom k (m - V) = rom 0 m0 by
              have R := rom_take hlt (n := m) (by rw [← HV.out]; exact hv)
              rw [← HV.out] at R
              rw [← HA.out, R, ← HT.out]; simp)
            go_wp2_with (at_builtin; refine wpList_append_text rfl (.tmp 21) (.tmp 23) _ _ rfl 5 ib Tryd.underlying29 Tryd.underlying9 hib kz0 kz1 kz2 w.heap.size A c L.length L rfl rfl hob T rfl (by omega) hz1 ?_; intro A' c' w' hol' hb' hg')
            go_roundw
            case rel =>
              exact ⟨m - V, A', c', L ++ T.data.toList, by omega, by go_num, by rw [List.length_append, data_len], M.out, by rw [List.length_append, data_len]; omega, hol', (hg'.block _ hPl (fun e => NE.out _ e.symm rfl)).trans HP.out, hb.trans hb'⟩
            case measure => simp [intOf]; omega
          · have M := hide (show L ++ rom (k + 1) m = rom 0 m0 by rw [← HA.out, rom_skip hlt (by rw [← HV.out]; omega)])
            go_wp2
            go_roundw
            case rel => exact ⟨m, k + 1, A, c, L, by omega, by omega, rfl, rfl, by go_num, M.out, hal, hob, hb⟩
            case measure => simp [intOf]; omega
      · obtain rfl : k = 13 := by omega
        have E2 := hide (show L = rom 0 m0 by simpa [rom_end] using HA.out)
        have h0 : 0 < L.length := by rw [E2.out]; exact rom_pos (by omega)
        have hcv := conv_bytes hob h0
        go_wp2
        go_ret
        exact ⟨str_ret (by rw [E.out, ← E2.out]; rfl), hb⟩
end Go.Proofs.YtonkbakoifdmiaaDoor
