/- slices.Grow and slices.Concat at items; replaced items, in the program. -/
import Derived.Test.YtlkfpcajpdohiaaItP
import Derived.Lib.AppendZerosOnto
import Derived.Laws.AppendOwn
import Derived.WalkKit
import Derived.Lib.Walk
import Derived.Lib.SliceRun
namespace Go.Proofs.Ytlkfpcajpdohiaa
open Go.ChangeShapes Go.WideShapes Go.ChangeAt Go.RowKit
set_option linter.unusedVariables false
set_option linter.unusedSimpArgs false
set_option maxRecDepth 10000

/-- A list from place t on. -/
theorem TL.from_ {w : World} {b o n t : Nat} {L : List It} (h : TL w (some ⟨b, o, none⟩) n L) (ht : t ≤ n) : TL w (some ⟨b, o + t * 6, none⟩) (n - t) (L.drop t) := by
  obtain ⟨h1, h2⟩ := h
  refine ⟨by simp; omega, fun h0 => ?_⟩
  obtain ⟨b', o', e, hb, hc⟩ := h2 (by omega)
  injection e with e
  cases e
  refine ⟨b, o + t * 6, rfl, hb, fun i hi j hj => ?_⟩
  have := hc (t + i) (by omega) j hj
  rw [show tg (L.drop t) i = tg L (t + i) from by simp [tg, List.getD], ← this]
  congr 2
  show o + t * 6 + i * 6 + j = o + (t + i) * 6 + j
  omega
set_option maxHeartbeats 2000000 in
theorem Grow_it (w : World) (n : Nat) (h0 : 0 < n) (hn : n ≤ 1000) :
    Calls Try.prog 103 #[.slice none 0 0, .int .i64 n] w fun e w' => ∃ c g, e = .returned (.slice (some ⟨g, 0, none⟩) 0 c) ∧ TO w' 67 w.heap.size (some ⟨g, 0, none⟩) c ([] : List It) ∧ n ≤ c ∧ Below w.heap.size w w' := by
  obtain ⟨i0, hi0, jz0, jz1, jz2⟩ := info_parts it_info
  have hrz : ∀ ty, (Builtin.append_ #[25, 3] ty #[.slice none 0 0, .int .i64 (n : Int)]).run Try.prog w =
      .ok (.slice (some ⟨w.heap.size, 0, none⟩) n (grownCap w n 0 67)) (w.drew.alloc (.cells (Builtin.zeroCells (Value.agg #[.int .i64 0, .int .i64 0, .int .i64 0, .int .i64 0, .int .i64 0, .bool false]).cells n ++ Builtin.zeroCells (Value.agg #[.int .i64 0, .int .i64 0, .int .i64 0, .int .i64 0, .int .i64 0, .bool false]).cells (grownCap w n 0 67 - n)) 67)) := fun ty => by
    have h := Lib.run_append_grow_zeros w 25 3 ty 67 i0 _ .i64 .i64 Try.underlying25 Try.underlying3 hi0 jz0 none 0 0 [] (run_firstCells_none w.drew i0.size 0 0 0) n h0 (by rw [jz1]; decide) (by omega) (by omega) (by rw [jz2]; omega) (growslice_fits (by omega) (by rw [jz2]; omega))
    simpa using h
  have hGn : n ≤ grownCap w n 0 67 := grownCap_ge w _ _ _
  have hG : grownCap w n 0 67 ≤ maxLen := grownCap_le_maxLen w n 0 67 (by unfold maxLen; omega)
  have hown : ∀ cur : Array Value, cur.size = grownCap w n 0 67 * 6 → TO (w.drew.alloc (.cells cur 67)) 67 w.heap.size (some ⟨w.heap.size, 0, none⟩) (grownCap w n 0 67) ([] : List It) := fun cur hc => by
    have := World.ownsRow_made (e := 67) (size := 6) (base := w.heap.size) w.drew cur (grownCap w n 0 67) (Nat.le_refl _) hG hc
    exact this
  have hsz : (Builtin.zeroCells (Value.agg #[.int .i64 0, .int .i64 0, .int .i64 0, .int .i64 0, .int .i64 0, .bool false]).cells n ++ Builtin.zeroCells (Value.agg #[.int .i64 0, .int .i64 0, .int .i64 0, .int .i64 0, .int .i64 0, .bool false]).cells (grownCap w n 0 67 - n)).size = grownCap w n 0 67 * 6 := by
    have z : ∀ k, (Builtin.zeroCells (Value.agg #[.int .i64 0, .int .i64 0, .int .i64 0, .int .i64 0, .int .i64 0, .bool false]).cells k).size = k * 6 := fun k => by
      simp [Builtin.zeroCells, Value.cells]
    rw [Array.size_append, z, z]
    omega
  obtain ⟨CS, hCS⟩ : ∃ CS, CS = Builtin.zeroCells (Value.agg #[.int .i64 0, .int .i64 0, .int .i64 0, .int .i64 0, .int .i64 0, .bool false]).cells n ++ Builtin.zeroCells (Value.agg #[.int .i64 0, .int .i64 0, .int .i64 0, .int .i64 0, .int .i64 0, .bool false]).cells (grownCap w n 0 67 - n) := ⟨_, rfl⟩
  rw [← hCS] at hrz hsz
  have HO := hide (hown CS hsz)
  obtain ⟨G, hG'⟩ : ∃ G, G = grownCap w n 0 67 := ⟨_, rfl⟩
  rw [← hG'] at hrz hGn hG HO
  have HGN := hide hGn
  have hG63 : G ≤ 9223372036854775807 := by unfold maxLen at hG; omega
  have h1 : ¬ ((n : Int) < 0) := by omega
  have h4 : (0 : Int) < (n : Int) := by omega
  have HB := hide (bl_alloc (bl_drew (bl_refl w)) (.cells CS 67))
  clear hown hsz hCS hG' hG hGn
  go_enter Try.func103, Try.ntmps103
  go_wp2_with (at_builtin; refine Lib.wpList_append_run _ rfl _ _ _ _ rfl _ _ rfl rfl _ _ (hrz _) ?_)
  go_ret
  exact ⟨G, w.heap.size, rfl, HO.out, HGN.out, HB.out⟩
theorem Grow_any (w : World) (n : Nat) (hn : n ≤ 1000) :
    Calls Try.prog 103 #[.slice none 0 0, .int .i64 n] w fun e w' => ∃ A c, e = .returned (.slice A 0 c) ∧ TO w' 67 w.heap.size A c ([] : List It) ∧ Below w.heap.size w w' := by
  rcases Nat.eq_zero_or_pos n with rfl | h
  · go_enter Try.func103, Try.ntmps103
    go_wp2
    go_ret
    exact ⟨none, 0, rfl, TO.nil _ _ _, bl_refl _⟩
  · refine (Grow_it w n h hn).mono ?_
    rintro e w' ⟨c, g, rfl, ho, _, hb⟩
    exact ⟨_, c, rfl, ho, hb⟩
/-- The first lists of three, one behind the other. -/
def catK (K1 K2 K3 : List It) (p : Nat) : List It := if p = 0 then [] else if p = 1 then K1 else if p = 2 then K1 ++ K2 else K1 ++ K2 ++ K3
set_option maxHeartbeats 4000000 in
theorem Concat_it (w : World) (b : Nat) (A1 A2 A3 : Option Addr) (c1 c2 c3 : Nat) (K1 K2 K3 : List It) (h1 : TL w A1 K1.length K1) (h2 : TL w A2 K2.length K2) (h3 : TL w A3 K3.length K3) (n1 : A1 = none → c1 = 0) (n2 : A2 = none → c2 = 0) (n3 : A3 = none → c3 = 0) (l1 : K1.length ≤ 100) (l2 : K2.length ≤ 100) (l3 : K3.length ≤ 100)
    (k1 : w.cell? ⟨b, 0, none⟩ = some (.slice A1 K1.length c1)) (k2 : w.cell? ⟨b, 1, none⟩ = some (.slice A2 K2.length c2)) (k3 : w.cell? ⟨b, 2, none⟩ = some (.slice A3 K3.length c3)) :
    Calls Try.prog 66 #[.slice (some ⟨b, 0, none⟩) 3 3] w fun e w' => ∃ A c, e = .returned (.slice A (K1 ++ K2 ++ K3).length c) ∧ TO w' 67 w.heap.size A c (K1 ++ K2 ++ K3) ∧ Below w.heap.size w w' := by
  obtain ⟨i0, hi0, jz0, jz1, jz2⟩ := info_parts it_info
  have H1 := hide h1
  have H2 := hide h2
  have H3 := hide h3
  have N1 := hide n1
  have N2 := hide n2
  have N3 := hide n3
  obtain ⟨s, hs⟩ : ∃ s, s = K1.length + K2.length + K3.length := ⟨_, rfl⟩
  have HS := hide hs
  have hs1 : s ≤ 300 := by omega
  clear h1 h2 h3 n1 n2 n3 hs
  go_enter Try.func66, Try.ntmps66
  go_wp2
  go_loop [3, 11] (fun z i => ∃ p : Nat, p ≤ 3 ∧ i = .int .i64 p ∧ z = .int .i64 ((catK K1 K2 K3 p).length : Nat)) (fun _ i => 3 - (intOf i).toNat)
  case atStart => exact ⟨0, by omega, rfl, rfl⟩
  case round =>
    obtain ⟨p, hp, rfl, rfl⟩ := hrel
    rcases (by omega : p = 0 ∨ p = 1 ∨ p = 2 ∨ p = 3) with rfl | rfl | rfl | rfl
    · have e0 : (catK K1 K2 K3 0).length = 0 := rfl
      rw [e0]
      go_wp2
      go_round
      case rel => exact ⟨1, by omega, rfl, by show _ = Value.int .i64 ((K1.length : Nat) : Int); go_num⟩
      case measure => simp [intOf]
    · have e0 : (catK K1 K2 K3 1).length = K1.length := rfl
      rw [e0]
      go_wp2
      go_round
      case rel => exact ⟨2, by omega, rfl, by show _ = Value.int .i64 (((K1 ++ K2).length : Nat) : Int); rw [List.length_append]; go_num⟩
      case measure => simp [intOf]
    · have e0 : (catK K1 K2 K3 2).length = K1.length + K2.length := by show (K1 ++ K2).length = _; simp
      rw [e0]
      go_wp2
      go_round
      case rel => exact ⟨3, by omega, rfl, by show _ = Value.int .i64 (((K1 ++ K2 ++ K3).length : Nat) : Int); rw [List.length_append, List.length_append]; go_num⟩
      case measure => simp [intOf]
    · have e0 : (catK K1 K2 K3 3).length = s := by show (K1 ++ K2 ++ K3).length = _; rw [List.length_append, List.length_append, ← HS.out]
      rw [e0]
      clear e0
      have GR := hide (Grow_any w s (by omega))
      next =>
        go_wp2_with fail
        (with_reducible refine GR.out.mono ?_)
        rintro e u1 ⟨Ag, cg, rfl, hog, hbg⟩
        have HOG := hide hog
        have HBG := hide hbg
        clear hog hbg GR
        go_wp2
        go_loopw [6, 27] (fun ns i u => ∃ (p : Nat) (A' : Option Addr) (c' : Nat), p ≤ 3 ∧ i = .int .i64 p ∧ ns = .slice A' (catK K1 K2 K3 p).length c' ∧ TO u 67 w.heap.size A' c' (catK K1 K2 K3 p) ∧ Below w.heap.size w u) (fun _ i _ => 3 - (intOf i).toNat)
        case atStart => exact ⟨0, _, _, by omega, rfl, rfl, HOG.out, HBG.out⟩
        case round =>
          obtain ⟨p, A', c', hp, rfl, rfl, hol, hbl⟩ := hrel
          have HOL := hide hol
          have HBL := hide hbl
          have hzz := hbl.size
          have k1 := keep_cell hbl k1
          have k2 := keep_cell hbl k2
          have k3 := keep_cell hbl k3
          clear hol hbl HOG HBG
          rcases (by omega : p = 0 ∨ p = 1 ∨ p = 2 ∨ p = 3) with rfl | rfl | rfl | rfl
          · have HOL := hide (show TO wr 67 w.heap.size A' c' ([] : List It) from HOL.out)
            go_wp2_with (at_builtin; go_loud (refine wpList_append_recs rfl (.tmp 31) (.tmp 32) _ rfl 67 i0 _ 48 Try.underlying25 hi0 jz0 jz1 jz2 rfl (by decide) w.heap.size A' c' (([] : List It)).length (([] : List It)) rfl rfl HOL.out A1 K1.length c1 K1 rfl (H1.out.below HBL.out) (fun r _ => ones6 r) N1.out (by (try simp only [List.length_append, List.length_nil]); omega) hzz ?_); intro A4 c4 u2 ho2 hb2 hg2; have HO2 := hide ho2; have HB2 := hide (HBL.out.trans hb2); clear ho2 hb2 hg2)
            go_roundw
            case rel => exact ⟨1, A4, c4, by omega, rfl, by show _ = Value.slice A4 K1.length c4; simp, by have h7 := HO2.out; rwa [List.nil_append] at h7, HB2.out⟩
            case measure => simp [intOf]
          · have HOL := hide (show TO wr 67 w.heap.size A' c' K1 from HOL.out)
            have e0 : (catK K1 K2 K3 1).length = K1.length := rfl
            rw [e0]
            go_wp2_with (at_builtin; go_loud (refine wpList_append_recs rfl (.tmp 31) (.tmp 32) _ rfl 67 i0 _ 48 Try.underlying25 hi0 jz0 jz1 jz2 rfl (by decide) w.heap.size A' c' (K1).length (K1) rfl rfl HOL.out A2 K2.length c2 K2 rfl (H2.out.below HBL.out) (fun r _ => ones6 r) N2.out (by (try simp only [List.length_append, List.length_nil]); omega) hzz ?_); intro A4 c4 u2 ho2 hb2 hg2; have HO2 := hide ho2; have HB2 := hide (HBL.out.trans hb2); clear ho2 hb2 hg2)
            go_roundw
            case rel => exact ⟨2, A4, c4, by omega, rfl, by show _ = Value.slice A4 (K1 ++ K2).length c4; rw [List.length_append], HO2.out, HB2.out⟩
            case measure => simp [intOf]
          · have HOL := hide (show TO wr 67 w.heap.size A' c' (K1 ++ K2) from HOL.out)
            have e0 : (catK K1 K2 K3 2).length = (K1 ++ K2).length := rfl
            rw [e0]
            go_wp2_with (at_builtin; go_loud (refine wpList_append_recs rfl (.tmp 31) (.tmp 32) _ rfl 67 i0 _ 48 Try.underlying25 hi0 jz0 jz1 jz2 rfl (by decide) w.heap.size A' c' ((K1 ++ K2)).length ((K1 ++ K2)) rfl rfl HOL.out A3 K3.length c3 K3 rfl (H3.out.below HBL.out) (fun r _ => ones6 r) N3.out (by (try simp only [List.length_append, List.length_nil]); omega) hzz ?_); intro A4 c4 u2 ho2 hb2 hg2; have HO2 := hide ho2; have HB2 := hide (HBL.out.trans hb2); clear ho2 hb2 hg2)
            go_roundw
            case rel => exact ⟨3, A4, c4, by omega, rfl, by show _ = Value.slice A4 (K1 ++ K2 ++ K3).length c4; simp only [List.length_append], HO2.out, HB2.out⟩
            case measure => simp [intOf]
          · have HOL := hide (show TO wr 67 w.heap.size A' c' (K1 ++ K2 ++ K3) from HOL.out)
            have e0 : (catK K1 K2 K3 3).length = (K1 ++ K2 ++ K3).length := rfl
            rw [e0]
            go_wp2
            go_ret
            exact ⟨A', c', rfl, HOL.out, HBL.out⟩
end Go.Proofs.Ytlkfpcajpdohiaa
