/- Inverse orders in the program and its model. -/
import Derived.Test.YteoiphjkkcjddaaDirM
import Derived.Test.YteoiphjkkcjddaaAllW
import Derived.Test.YteoiphjkkcjddaaRead
namespace Go.Proofs.Yteoiphjkkcjddaa
open Go.ChangeShapes Go.WideShapes Go.ChangeAt Go.RowKit
set_option linter.unusedVariables false

/-- A slice that the call made, of blocks from B on, which holds a list of booleans. -/
def OT (w : World) (e : TypeId) (B : Nat) (A : Option Addr) (c : Nat) (l : List Bool) : Prop := w.ownsRow B e 1 (.slice A l.length c) l.length (l.map Value.bool)
section
variable {w w' : World} {A : Option Addr} {n c B B' : Nat} {e : TypeId} {l : List Bool}
theorem OT.own_lt (h : OT w e B A c l) : ∀ k, (Value.slice A l.length c).ownBlock = some k → B ≤ k ∧ k < w.heap.size := fun k hk => World.ownsRow.lt h k hk
theorem OT.kept {row : Option Nat} (h : OT w e B A c l) (hg : w.grownBy w' row) (hne : ∀ k, (Value.slice A l.length c).ownBlock = some k → row ≠ some k) : OT w' e B A c l := by
  refine World.ownsRow.kept h hg ?_
  cases hv : (Value.slice A l.length c).ownBlock with
  | none => exact .inl rfl
  | some k => exact .inr (fun e => hne k hv e.symm)
theorem OT.at_ {g : Nat} (h : OT w e B (some ⟨g, 0, none⟩) c l) {i : Nat} (hi : i < l.length) : w.cell? ⟨g, i, none⟩ = some (.bool (l[i])) ∧ w.frozen? ⟨g, i, none⟩ = false := by
  rcases h.2 with ⟨h0, _⟩ | ⟨g', cap, cur, h0, _⟩
  · cases h0
  · injection h0 with h0
    cases h0
    refine ⟨?_, World.ownsRow.frozenAt h i⟩
    rw [World.ownsRow.cellAt h i (by omega)]
    simp [List.getElem?_eq_getElem hi]
theorem OT.set_ {g : Nat} (h : OT w e B (some ⟨g, 0, none⟩) c l) (i : Nat) (z : Bool) : OT (w.setCell ⟨g, i, none⟩ (.bool z)) e B (some ⟨g, 0, none⟩) c (l.set i z) ∧ w.grownBy (w.setCell ⟨g, i, none⟩ (.bool z)) (some g) := by
  have := World.ownsRow.stored h i (.bool z)
  refine ⟨?_, this.2⟩
  have h1 := this.1
  unfold OT
  rw [List.length_set, List.map_set]
  exact h1
end

theorem apart_gg {g h n c : Nat} (hne : ¬ g = h) : ∀ k, (Value.slice (some ⟨h, 0, none⟩) n c).ownBlock = some k → some g ≠ some k := fun k hk e => by
  injection e with e
  subst e
  simp [Value.ownBlock] at hk
  omega
/-- Which indices were taken by the first p elements. -/
def tkn (l : List Int) (p : Nat) : List Bool := (List.range l.length).map fun i : Nat => decide ((i : Int) ∈ l.take p)
theorem tkn_len (l : List Int) (p : Nat) : (tkn l p).length = l.length := by simp [tkn]
theorem tkn_zero (l : List Int) : tkn l 0 = List.replicate l.length false := by
  apply List.ext_getElem (by simp [tkn])
  intro i h1 h2; simp [tkn]
theorem tkn_get {l : List Int} {p k : Nat} (h : k < (tkn l p).length) : (tkn l p)[k] = decide ((k : Int) ∈ l.take p) := by simp [tkn]
theorem tkn_step {l : List Int} {p x : Nat} (h : p < l.length) (he : ng l p = x) : (tkn l p).set x true = tkn l (p + 1) := by
  apply List.ext_getElem (by rw [List.length_set, tkn_len, tkn_len])
  intro j h1 h2
  rw [List.getElem_set, tkn_get (by rwa [List.length_set] at h1), tkn_get]
  by_cases e : x = j
  · subst e
    rw [if_pos rfl]
    symm
    simp only [decide_eq_true_eq]
    exact (take_mem h).2 (.inr he.symm)
  · rw [if_neg e]
    have : (j : Int) ∈ l.take (p + 1) ↔ (j : Int) ∈ l.take p := by
      rw [take_mem h, he]
      exact ⟨fun h => h.resolve_right (by omega), .inl⟩
    simp only [this]
def GoodTo (l : List Int) (p : Nat) : Prop := ∀ j, j < p → (0 ≤ ng l j ∧ ng l j < l.length) ∧ ng l j ∉ l.take j
theorem GoodTo.step {l : List Int} {p : Nat} (h : GoodTo l p) (h1 : 0 ≤ ng l p ∧ ng l p < l.length) (h2 : ng l p ∉ l.take p) : GoodTo l (p + 1) := fun j hj => by
  rcases (by omega : j < p ∨ j = p) with h' | rfl
  · exact h j h'
  · exact ⟨h1, h2⟩
theorem okI_long {l : List Int} (h : 60 < l.length) : okI l = false := by
  cases ho : okI l
  · rfl
  · have := (okI_iff.1 ho).1; omega

theorem bool_info : (Try.prog.info? 4).map (fun i => (i.zero, i.size, i.bytes)) = some (some (.bool false), 1, 1) := by kernel_rfl

set_option maxHeartbeats 1000000 in
theorem InverseOrder_i (w : World) (A : Option Addr) (n cL : Nat) (l : List Int) (hL : IL w A n l) (hn : n ≤ 4611686018427387904) :
    Calls Try.prog 28 #[.slice A n cL] w fun e w' => ∃ A' c', e = .returned (.slice A' (invO l).length c') ∧ OL w' 3 w.heap.size A' c' (invO l) ∧ Below w.heap.size w w' := by
  obtain rfl : n = l.length := hL.1
  rcases (by omega : 60 < l.length ∨ l.length ≤ 60) with hlen | hlen
  · have E := hide (invO_no (okI_long hlen))
    go_enter Try.func28, Try.ntmps28
    go_wp2
    go_ret
    rw [E.out]
    exact ⟨none, 0, rfl, OL.nil _ _ _, bl_refl _⟩
  · have HL := hide hL
    obtain ⟨i0, hi0, hz0, hz1, hz2⟩ := info_parts int_info
    obtain ⟨i1, hi1, kz0, kz1, kz2⟩ := info_parts bool_info
    clear hL
    go_enter Try.func28, Try.ntmps28
    go_wp2_with (first | (refine wpList_make_full _ rfl _ _ _ rfl w.heap.size 3 i0 _ 1 Try.underlying22 hi0 hz0 hz1 .i64 .i64 _ _ l.length rfl rfl rfl rfl (by rw [hz2]; omega) (by unfold maxLen; omega) (Nat.le_refl _) ?_; intro w1 hown hgr; have hlt1 : w.heap.size < w1.heap.size := (World.ownsRow.lt hown w.heap.size rfl).2) | (refine wpList_make_full _ rfl _ _ _ rfl w.heap.size 4 i1 _ 1 Try.underlying43 hi1 kz0 kz1 .i64 .i64 _ _ l.length rfl rfl rfl rfl (by rw [kz2]; omega) (by unfold maxLen; omega) (Nat.le_of_lt hlt1) ?_; intro w2 hown2 hgr2))
    have H0 : Hid (OL w1 3 w.heap.size (some ⟨w.heap.size, 0, none⟩) l.length (plc l 0)) := hide (by
      rw [plc_zero]; unfold OL
      have e1 : (madeCells (Value.int .i64 0).cells l.length).toList = List.replicate l.length (.int .i64 0) := toList_madeCells_one _ _
      simp only [Nat.mul_one, e1] at hown
      simpa using hown)
    have hb1 := below_new hgr
    clear hown hgr
    obtain ⟨g2, hg2⟩ : ∃ g2, g2 = w1.heap.size := ⟨_, rfl⟩
    rw [← hg2] at hown2 hlt1 ⊢
    have hgl2 : g2 < w2.heap.size := by
      rcases World.ownsRow.lt hown2 g2 rfl with ⟨_, h⟩
      exact h
    have K0 : Hid (OT w2 4 w.heap.size (some ⟨g2, 0, none⟩) l.length (tkn l 0)) := hide (by
      rw [tkn_zero]; unfold OT
      have e1 : (madeCells (Value.bool false).cells l.length).toList = List.replicate l.length (.bool false) := toList_madeCells_one _ _
      simp only [Nat.mul_one, e1] at hown2
      simpa using hown2)
    have H1 := hide (H0.out.kept hgr2 (fun k _ e => by cases e))
    have hb2 : Below w.heap.size w w2 := bl_call (below_new hgr2) hb1
    have n12 : ¬ w.heap.size = g2 := by omega
    have n21 : ¬ g2 = w.heap.size := by omega
    clear hown2 hgr2 hb1 hg2
    go_loopw [18] (fun i u => ∃ p : Nat, p ≤ l.length ∧ i = .int .i64 p ∧ OL u 3 w.heap.size (some ⟨w.heap.size, 0, none⟩) l.length (plc l p) ∧ OT u 4 w.heap.size (some ⟨g2, 0, none⟩) l.length (tkn l p) ∧ GoodTo l p ∧ Below w.heap.size w u) (fun i _ => l.length - (intOf i).toNat)
    case atStart => exact ⟨0, by omega, rfl, H1.out, K0.out, fun j hj => by omega, hb2⟩
    case round =>
      obtain ⟨p, hp, rfl, hol, hot, hgd, hbl⟩ := hrel
      have HGD := hide hgd
      clear hgd
      by_cases hlt : p < l.length
      · obtain ⟨b, o, rfl, hbv, hc⟩ := HL.out.at_ hlt
        have hc := keep_cell hbl hc
        have nb1 : ¬ b = w.heap.size := by omega
        have nb2 : ¬ b = g2 := by omega
        have nb3 : ¬ w.heap.size = b := by omega
        have nb4 : ¬ g2 = b := by omega
        obtain ⟨x, hx⟩ : ∃ x, x = ng l p := ⟨_, rfl⟩
        rw [← hx] at hc
        have HX := hide hx
        clear hx
        cases q : inB x 0 ((l.length : Int) - 1)
        · have E : Hid (invO l = []) := hide (invO_no (okI_bad hlt (.inl (by
            rw [← HX.out]; intro h
            rw [inB_yes h.1 (by omega)] at q
            cases q))))
          clear hol hot
          go_wp2_with (first | (go_at_call 40; refine (within_any _ _ _ _).mono ?_; rintro e w' ⟨rfl, rfl⟩) | (go_at_call 37; refine (inRange_any _ _ _ _).mono ?_; rintro e w' ⟨rfl, rfl⟩))
          go_ret
          rw [E.out]
          exact ⟨none, 0, rfl, OL.nil _ _ _, hbl⟩
        · obtain ⟨q0, q1⟩ := inB_iff.1 q
          obtain ⟨k, rfl⟩ := Int.eq_ofNat_of_zero_le q0
          have hk : k < l.length := by omega
          obtain ⟨t0, f2⟩ := hot.at_ (i := k) (by rw [tkn_len]; exact hk)
          rw [tkn_get] at t0
          cases qt : decide ((k : Int) ∈ l.take p)
          · have hnm : (k : Int) ∉ l.take p := by simpa using qt
            rw [qt] at t0
            have G2 := hide (HGD.out.step (by rw [← HX.out]; omega) (by rw [← HX.out]; exact hnm))
            have hc1 := hol.reads.at_ (i := k) (by rw [plc_len]; exact hk)
            obtain ⟨b', o', he, hg, hc1⟩ := hc1
            obtain ⟨g', he', _, _, hfz⟩ := hol.frozen (by rw [plc_len]; omega)
            injection he with he; injection he' with he'
            cases he; cases he'
            have f1 := hfz k
            rw [Nat.zero_add] at hc1
            have A1 := hol.set_ k (p : Int)
            have A2 := (hot.kept A1.2 (apart_gg n12)).set_ k true
            have A3 := hide (A1.1.kept A2.2 (apart_gg n21))
            have A4 := hide A2.1
            have B1 := hot.set_ k true
            have B2 := (hol.kept B1.2 (apart_gg n21)).set_ k (p : Int)
            have B3 := hide (B1.1.kept B2.2 (apart_gg n12))
            have B4 := hide B2.1
            clear A1 A2 B1 B2
            have PS := hide (plc_step hlt hk HX.out.symm hnm)
            have TS := hide (tkn_step hlt HX.out.symm)
            clear hfz hol hot qt hnm
            go_wp2_with (first | (go_at_call 40; refine (within_any _ _ _ _).mono ?_; rintro e w' ⟨rfl, rfl⟩) | (go_at_call 37; refine (inRange_any _ _ _ _).mono ?_; rintro e w' ⟨rfl, rfl⟩))
            go_roundw
            case rel =>
              refine ⟨p + 1, by omega, by go_num, ?_, ?_, G2.out, bl_set (bl_set hbl (by first | exact Nat.le_refl _ | exact Nat.le_of_lt hlt1) _) (by first | exact Nat.le_refl _ | exact Nat.le_of_lt hlt1) _⟩
              · rw [← PS.out]
                first | exact A3.out | exact B4.out
              · rw [← TS.out]
                first | exact A4.out | exact B3.out
            case measure => simp [intOf]; omega
          · have hm : (k : Int) ∈ l.take p := by simpa using qt
            rw [qt] at t0
            have E : Hid (invO l = []) := hide (invO_no (okI_bad hlt (.inr (by rw [← HX.out]; exact hm))))
            clear hol hot qt hm
            go_wp2_with (first | (go_at_call 40; refine (within_any _ _ _ _).mono ?_; rintro e w' ⟨rfl, rfl⟩) | (go_at_call 37; refine (inRange_any _ _ _ _).mono ?_; rintro e w' ⟨rfl, rfl⟩))
            go_ret
            rw [E.out]
            exact ⟨none, 0, rfl, OL.nil _ _ _, hbl⟩
      · have hpe : p = l.length := by omega
        have hok : okI l = true := okI_good hlen (fun j hj => HGD.out j (by rw [hpe]; exact hj))
        have E : Hid (invO l = plc l p) := hide (by rw [invO_yes hok, hpe, plc_done hok])
        have O2 : Hid (OL wr 3 w.heap.size (some ⟨w.heap.size, 0, none⟩) l.length (invO l)) := hide (by rw [E.out]; exact hol)
        have EL : Hid ((invO l).length = l.length) := hide (by rw [E.out, plc_len])
        clear hol hot hok hpe
        go_wp2
        go_ret
        refine ⟨some ⟨w.heap.size, 0, none⟩, l.length, ?_, O2.out, hbl⟩
        rw [EL.out]
        rfl
set_option maxHeartbeats 1000000 in
theorem InverseOrder_s (w : World) (A : Option Addr) (n cL : Nat) (l : List Int) (hL : IL w A n l) (hn : n ≤ 4611686018427387904) :
    Calls Try.prog 27 #[.slice A n cL] w fun e w' => ∃ A' c', e = .returned (.slice A' (invO l).length c') ∧ OL w' 3 w.heap.size A' c' (invO l) ∧ Below w.heap.size w w' := by
  obtain rfl : n = l.length := hL.1
  rcases (by omega : 60 < l.length ∨ l.length ≤ 60) with hlen | hlen
  · have E := hide (invO_no (okI_long hlen))
    go_enter Try.func27, Try.ntmps27
    go_wp2
    go_ret
    rw [E.out]
    exact ⟨none, 0, rfl, OL.nil _ _ _, bl_refl _⟩
  · have HL := hide hL
    obtain ⟨i0, hi0, hz0, hz1, hz2⟩ := info_parts int_info
    obtain ⟨i1, hi1, kz0, kz1, kz2⟩ := info_parts bool_info
    clear hL
    go_enter Try.func27, Try.ntmps27
    go_wp2_with (first | (refine wpList_make_full _ rfl _ _ _ rfl w.heap.size 3 i0 _ 1 Try.underlying22 hi0 hz0 hz1 .i64 .i64 _ _ l.length rfl rfl rfl rfl (by rw [hz2]; omega) (by unfold maxLen; omega) (Nat.le_refl _) ?_; intro w1 hown hgr; have hlt1 : w.heap.size < w1.heap.size := (World.ownsRow.lt hown w.heap.size rfl).2) | (refine wpList_make_full _ rfl _ _ _ rfl w.heap.size 4 i1 _ 1 Try.underlying43 hi1 kz0 kz1 .i64 .i64 _ _ l.length rfl rfl rfl rfl (by rw [kz2]; omega) (by unfold maxLen; omega) (Nat.le_of_lt hlt1) ?_; intro w2 hown2 hgr2))
    have H0 : Hid (OL w1 3 w.heap.size (some ⟨w.heap.size, 0, none⟩) l.length (plc l 0)) := hide (by
      rw [plc_zero]; unfold OL
      have e1 : (madeCells (Value.int .i64 0).cells l.length).toList = List.replicate l.length (.int .i64 0) := toList_madeCells_one _ _
      simp only [Nat.mul_one, e1] at hown
      simpa using hown)
    have hb1 := below_new hgr
    clear hown hgr
    obtain ⟨g2, hg2⟩ : ∃ g2, g2 = w1.heap.size := ⟨_, rfl⟩
    rw [← hg2] at hown2 hlt1 ⊢
    have hgl2 : g2 < w2.heap.size := by
      rcases World.ownsRow.lt hown2 g2 rfl with ⟨_, h⟩
      exact h
    have K0 : Hid (OT w2 4 w.heap.size (some ⟨g2, 0, none⟩) l.length (tkn l 0)) := hide (by
      rw [tkn_zero]; unfold OT
      have e1 : (madeCells (Value.bool false).cells l.length).toList = List.replicate l.length (.bool false) := toList_madeCells_one _ _
      simp only [Nat.mul_one, e1] at hown2
      simpa using hown2)
    have H1 := hide (H0.out.kept hgr2 (fun k _ e => by cases e))
    have hb2 : Below w.heap.size w w2 := bl_call (below_new hgr2) hb1
    have n12 : ¬ w.heap.size = g2 := by omega
    have n21 : ¬ g2 = w.heap.size := by omega
    clear hown2 hgr2 hb1 hg2
    go_loopw [5] (fun i u => ∃ p : Nat, p ≤ l.length ∧ i = .int .i64 p ∧ OL u 3 w.heap.size (some ⟨w.heap.size, 0, none⟩) l.length (plc l p) ∧ OT u 4 w.heap.size (some ⟨g2, 0, none⟩) l.length (tkn l p) ∧ GoodTo l p ∧ Below w.heap.size w u) (fun i _ => l.length - (intOf i).toNat)
    case atStart => exact ⟨0, by omega, rfl, H1.out, K0.out, fun j hj => by omega, hb2⟩
    case round =>
      obtain ⟨p, hp, rfl, hol, hot, hgd, hbl⟩ := hrel
      have HGD := hide hgd
      clear hgd
      by_cases hlt : p < l.length
      · obtain ⟨b, o, rfl, hbv, hc⟩ := HL.out.at_ hlt
        have hc := keep_cell hbl hc
        have nb1 : ¬ b = w.heap.size := by omega
        have nb2 : ¬ b = g2 := by omega
        have nb3 : ¬ w.heap.size = b := by omega
        have nb4 : ¬ g2 = b := by omega
        obtain ⟨x, hx⟩ : ∃ x, x = ng l p := ⟨_, rfl⟩
        rw [← hx] at hc
        have HX := hide hx
        clear hx
        cases q : inB x 0 ((l.length : Int) - 1)
        · have E : Hid (invO l = []) := hide (invO_no (okI_bad hlt (.inl (by
            rw [← HX.out]; intro h
            rw [inB_yes h.1 (by omega)] at q
            cases q))))
          clear hol hot
          go_wp2_with (first | (go_at_call 40; refine (within_any _ _ _ _).mono ?_; rintro e w' ⟨rfl, rfl⟩) | (go_at_call 37; refine (inRange_any _ _ _ _).mono ?_; rintro e w' ⟨rfl, rfl⟩))
          go_ret
          rw [E.out]
          exact ⟨none, 0, rfl, OL.nil _ _ _, hbl⟩
        · obtain ⟨q0, q1⟩ := inB_iff.1 q
          obtain ⟨k, rfl⟩ := Int.eq_ofNat_of_zero_le q0
          have hk : k < l.length := by omega
          obtain ⟨t0, f2⟩ := hot.at_ (i := k) (by rw [tkn_len]; exact hk)
          rw [tkn_get] at t0
          cases qt : decide ((k : Int) ∈ l.take p)
          · have hnm : (k : Int) ∉ l.take p := by simpa using qt
            rw [qt] at t0
            have G2 := hide (HGD.out.step (by rw [← HX.out]; omega) (by rw [← HX.out]; exact hnm))
            have hc1 := hol.reads.at_ (i := k) (by rw [plc_len]; exact hk)
            obtain ⟨b', o', he, hg, hc1⟩ := hc1
            obtain ⟨g', he', _, _, hfz⟩ := hol.frozen (by rw [plc_len]; omega)
            injection he with he; injection he' with he'
            cases he; cases he'
            have f1 := hfz k
            rw [Nat.zero_add] at hc1
            have A1 := hol.set_ k (p : Int)
            have A2 := (hot.kept A1.2 (apart_gg n12)).set_ k true
            have A3 := hide (A1.1.kept A2.2 (apart_gg n21))
            have A4 := hide A2.1
            have B1 := hot.set_ k true
            have B2 := (hol.kept B1.2 (apart_gg n21)).set_ k (p : Int)
            have B3 := hide (B1.1.kept B2.2 (apart_gg n12))
            have B4 := hide B2.1
            clear A1 A2 B1 B2
            have PS := hide (plc_step hlt hk HX.out.symm hnm)
            have TS := hide (tkn_step hlt HX.out.symm)
            clear hfz hol hot qt hnm
            go_wp2_with (first | (go_at_call 40; refine (within_any _ _ _ _).mono ?_; rintro e w' ⟨rfl, rfl⟩) | (go_at_call 37; refine (inRange_any _ _ _ _).mono ?_; rintro e w' ⟨rfl, rfl⟩))
            go_roundw
            case rel =>
              refine ⟨p + 1, by omega, by go_num, ?_, ?_, G2.out, bl_set (bl_set hbl (by first | exact Nat.le_refl _ | exact Nat.le_of_lt hlt1) _) (by first | exact Nat.le_refl _ | exact Nat.le_of_lt hlt1) _⟩
              · rw [← PS.out]
                first | exact A3.out | exact B4.out
              · rw [← TS.out]
                first | exact A4.out | exact B3.out
            case measure => simp [intOf]; omega
          · have hm : (k : Int) ∈ l.take p := by simpa using qt
            rw [qt] at t0
            have E : Hid (invO l = []) := hide (invO_no (okI_bad hlt (.inr (by rw [← HX.out]; exact hm))))
            clear hol hot qt hm
            go_wp2_with (first | (go_at_call 40; refine (within_any _ _ _ _).mono ?_; rintro e w' ⟨rfl, rfl⟩) | (go_at_call 37; refine (inRange_any _ _ _ _).mono ?_; rintro e w' ⟨rfl, rfl⟩))
            go_ret
            rw [E.out]
            exact ⟨none, 0, rfl, OL.nil _ _ _, hbl⟩
      · have hpe : p = l.length := by omega
        have hok : okI l = true := okI_good hlen (fun j hj => HGD.out j (by rw [hpe]; exact hj))
        have E : Hid (invO l = plc l p) := hide (by rw [invO_yes hok, hpe, plc_done hok])
        have O2 : Hid (OL wr 3 w.heap.size (some ⟨w.heap.size, 0, none⟩) l.length (invO l)) := hide (by rw [E.out]; exact hol)
        have EL : Hid ((invO l).length = l.length) := hide (by rw [E.out, plc_len])
        clear hol hot hok hpe
        go_wp2
        go_ret
        refine ⟨some ⟨w.heap.size, 0, none⟩, l.length, ?_, O2.out, hbl⟩
        rw [EL.out]
        rfl
end Go.Proofs.Yteoiphjkkcjddaa
