/- Several texts of one claim, one behind the other. -/
import Derived.Test.YtafddofajfcffaaQd
import Derived.Test.YtafddofajfcffaaQb
import Derived.Test.YtafddofajfcffaaQa
import Derived.Test.YtafddofajfcffaaQc
import Derived.Test.YtafddofajfcffaaQh
import Derived.Test.YtafddofajfcffaaQe
import Derived.BigQuiet
import Derived.Deep.QuietTactic
import Derived.Test.YtafddofajfcffaaQg
/- Drawn items of a paragraph. -/
namespace Go.Proofs.Ytafddofajfcffaa
open Go.ChangeShapes Go.WideShapes Go.ChangeAt Go.RowKit
set_option linter.unusedVariables false
set_option maxRecDepth 4000

theorem RD.belowR {w w' : World} {B B' g N : Nat} (h : RD w B g N) (hb : Below B' w w') (hB : B ≤ B') : RD w' B g N :=
  h.keep (fun _ hq => hb.cell (Nat.lt_of_lt_of_le hq hB)) (fun _ hq => hb.frozen (Nat.lt_of_lt_of_le hq hB)) hb.size
theorem on_belowR {w w' a : World} {B g : Nat} (h : Below B w w') (hB : a.heap.size ≤ B) (h0 : a.grownBy w (some g)) : a.grownBy w' (some g) :=
  ⟨h.os.trans h0.os, h.tape.trans h0.tape, h.output.trans h0.output, Nat.le_trans h0.size h.size, fun i hi hne => (h.block i (by omega)).trans (h0.block i hi hne)⟩
theorem TO.readI {w w' : World} {B g c : Nat} {e : TypeId} {A : Option Addr} {L : List It} (h : TO w e B A c L) (hg : w.grownBy w' (some g)) (hlt : g < B) : TO w' e B A c L :=
  h.kept hg (fun k hk e => by
    have := (h.own_lt k hk).1
    injection e with e
    omega)
theorem ones6 (x : It) : ∀ u ∈ Rec.cells x, u.oneCell' = true := by
  intro u hu
  simp [Rec.cells] at hu
  rcases hu with rfl | rfl | rfl | rfl | rfl | rfl <;> rfl
theorem cells6 {W : World} {n : Nat} {t : TypeId} (a b c d e : Int) (f : Bool) (h : W.heap.size = n) : ∀ j, j < Rec.size It → (W.alloc (.cells #[.int .i64 a, .int .i64 b, .int .i64 c, .int .i64 d, .int .i64 e, .bool f] t)).cell? ⟨n, j, none⟩ = (Rec.cells (⟨a, b, c, d, e, f⟩ : It))[j]? := by
  subst h
  intro j hj
  have hj' : j < 6 := hj
  rcases (by omega : j = 0 ∨ j = 1 ∨ j = 2 ∨ j = 3 ∨ j = 4 ∨ j = 5) with rfl | rfl | rfl | rfl | rfl | rfl <;> simp [go_sem, Rec.cells]
/-- append of two records. -/
theorem wpList_append_rec2 {P : Program} {ops : Array Oper} {rest : List Oper} {o : Oper} {a : Act} {Q : Exit → Act → World → Prop} {w : World} (hgd : o.guard = none) (s x : Operand) (t : TypeId)
    (ho : o.op = .call { callee := .builtin .append, args := #[s, x], argTypes := #[t, t] })
    (e : TypeId) (i : TypeInfo) (zv : Value) (ht : P.underlying t = some (.slice e)) (hi : P.info? e = some i) (hz : i.zero = some zv) (hsize : i.size = 6) (hby : i.bytes = 48) (hzs : zv.cells.size = 6)
    (B : Nat) (A : Option Addr) (c n : Nat) (L : List It) (hs : a.eval s = .slice A n c) (hn : n = L.length) (hown : TO w e B A c L)
    (b : Nat) (r r' : It) (hx : a.eval x = .slice (some ⟨b, 0, none⟩) 2 2) (hc : ∀ j, j < 12 → w.cell? ⟨b, j, none⟩ = (Rec.cells r ++ Rec.cells r')[j]?) (hlen : n ≤ 1000000000000) (hB : B ≤ w.heap.size)
    (h : ∀ A' c' w', TO w' e B A' c' (L ++ [r, r']) → Below B w w' → w.grownBy w' (Value.slice A n c).ownBlock → wpList P ops Q rest (a.put o.dst (.slice A' (n + 2) c')) w') : wpList P ops Q (o :: rest) a w := by
  subst hn
  refine wpList_append_own w hgd s x t ho B e i zv 6 48 ht hi hz hsize hby hzs (by decide) _ L.length (L.flatMap Rec.cells) hs hown ⟨b, 0, none⟩ 2 2 (Rec.cells r ++ Rec.cells r') hx rfl ?_ ?_ (by unfold maxLen; omega) (by omega) hB ?_
  · intro j u hj
    have hj2 : j < 12 := (List.getElem?_eq_some_iff.1 hj).1
    rw [← hj, ← hc j hj2]
    congr 1
    by_cases h0 : j = 0 <;> simp [Addr.add, h0]
  · intro u hu
    rcases List.mem_append.1 hu with hu | hu
    · exact ones6 r u hu
    · exact ones6 r' u hu
  · intro v' w' hown' hgr _
    obtain ⟨A', c', rfl, hl, hol⟩ := TO.of_own (L := L ++ [r, r']) hown' (by simp)
    exact h A' c' w' hol ((Below.refl _ _).grown hgr hB (fun k hk => (hown.own_lt k hk).1)) hgr

set_option maxHeartbeats 4000000 in
theorem randomItems_any (w : World) (B g N : Nat) (h : RD w B g N) (hN : N ≤ 100000000) (hB : B ≤ w.heap.size) :
    Calls Try.prog 148 #[.pointer (some ⟨g, 0, none⟩)] w fun e w' => ∃ (A : Option Addr) (c : Nat) (L : List It), e = .returned (.slice A L.length c) ∧ TO w' 76 w.heap.size A c L ∧ (1 ≤ L.length ∧ L.length ≤ 23) ∧ RD w' B g (N + 70) ∧ w.grownBy w' (some g) := by
  obtain ⟨i0, hi0, jz0, jz1, jz2⟩ := info_parts it_info
  have hg := h.lt
  go_enter Try.func148, Try.ntmps148
  have H0 : Hid (TO (w.alloc (.cells #[] 76)) 76 w.heap.size (some ⟨w.heap.size, 0, none⟩) 0 ([] : List It)) := hide (TO.lit0 (Nat.le_refl _))
  go_wp2_with fail
  refine (pick_any _ B g _ _ (RD.alloc h _) (by omega) (by omega) (by omega)).mono ?_
  rintro e u0 ⟨r, hr0, hr1, rfl, hrd, hon⟩
  have H1 := hide (H0.out.readI hon (by omega))
  have O1 := hide (on_call hon (on_alloc (on_refl w (some g)) _))
  have hz := hon.size
  simp at hz
  clear hon h H0
  go_wp2
  go_loopw [3, 4] (fun v i u => ∃ (q m : Nat) (A : Option Addr) (cc : Nat) (L : List It), q + 2 * m ≤ 20 ∧ i = .int .i64 m ∧ v = .slice A q cc ∧ q = L.length ∧ TO u 76 w.heap.size A cc L ∧ RD u B g (N + 1 + 3 * q) ∧ w.grownBy u (some g)) (fun _ i _ => (intOf i).toNat)
  case atStart => exact ⟨0, r.toNat, _, _, [], by omega, by go_num, rfl, rfl, H1.out, hrd, O1.out⟩
  case round =>
    clear hrd
    obtain ⟨q, m, A, cc, L, hqm, rfl, rfl, hpl, hol, hrd, hon⟩ := hrel
    have HPL := hide hpl
    clear hpl
    have hzr := hon.size
    rcases Nat.eq_zero_or_pos m with hm | hm
    · subst hm
      go_wp2_with fail
      refine (pick_any _ B g _ _ hrd (by omega) (by omega) (by omega)).mono ?_
      rintro e u1 ⟨r, hr0, hr1, rfl, hrd1, hon1⟩
      have hol1 := hol.readI hon1 (by omega)
      have O2 := hide (on_call hon1 hon)
      have hz1 := hon1.size
      clear hol hon hon1 hrd
      rcases (by omega : r = 0 ∨ 0 < r) with rfl | hr
      · go_wp2_with (at_builtin; refine wpList_append_rec rfl (.tmp 71) (.tmp 73) _ rfl 76 i0 _ 48 Try.underlying26 hi0 jz0 jz1 jz2 rfl (by decide) w.heap.size A cc q L rfl (HPL.out) (hol1.alloc _) u1.heap.size ⟨3, 0, 0, 0, -1000, false⟩ rfl (ones6 _) (cells6 _ _ _ _ _ _ rfl) (by omega) (by simp; omega) ?_; intro A' c' w' hol' hb' hg')
        go_ret
        exact ⟨A', c', _, by rw [List.length_append, ← HPL.out]; rfl, hol', by rw [List.length_append, ← HPL.out]; simp; omega, ((hrd1.alloc (.cells #[.int .i64 3, .int .i64 0, .int .i64 0, .int .i64 0, .int .i64 (-1000), .bool false] 76)).belowR hb' hB).more (by omega) (Nat.le_refl _) (by have := hb'.size; simp at this; omega), on_belowR hb' (Nat.le_refl _) (on_alloc O2.out _)⟩
      · go_wp2_with (first | (at_builtin; refine wpList_append_rec2 rfl (.tmp 65) (.tmp 69) _ rfl 76 i0 _ Try.underlying26 hi0 jz0 jz1 jz2 rfl w.heap.size A cc q L rfl (HPL.out) (hol1.alloc _) u1.heap.size ⟨3, 0, 0, 0, 1000, false⟩ ⟨2, 0, 1000, 0, 0, false⟩ rfl (by intro j hj; rcases (by omega : j = 0 ∨ j = 1 ∨ j = 2 ∨ j = 3 ∨ j = 4 ∨ j = 5 ∨ j = 6 ∨ j = 7 ∨ j = 8 ∨ j = 9 ∨ j = 10 ∨ j = 11) with rfl | rfl | rfl | rfl | rfl | rfl | rfl | rfl | rfl | rfl | rfl | rfl <;> simp [go_sem, Rec.cells]) (by omega) (by simp; omega) ?_; intro A' c' w' hol' hb' hg') | (have hzz := hb'.size; simp at hzz; at_builtin; refine wpList_append_rec rfl (.tmp 71) (.tmp 73) _ rfl 76 i0 _ 48 Try.underlying26 hi0 jz0 jz1 jz2 rfl (by decide) w.heap.size A' c' (q + 2) _ rfl (by rw [List.length_append, ← HPL.out]; rfl) (hol'.alloc _) w'.heap.size ⟨3, 0, 0, 0, -1000, false⟩ rfl (ones6 _) (cells6 _ _ _ _ _ _ rfl) (by omega) (by simp; omega) ?_; intro A2 c2 w2 hol2 hb2 hg2))
        go_ret
        exact ⟨A2, c2, _, by rw [List.length_append, List.length_append, ← HPL.out]; rfl, hol2, by rw [List.length_append, List.length_append, ← HPL.out]; simp; omega, ((((hrd1.alloc (.cells #[.int .i64 3, .int .i64 0, .int .i64 0, .int .i64 0, .int .i64 1000, .bool false, .int .i64 2, .int .i64 0, .int .i64 1000, .int .i64 0, .int .i64 0, .bool false] 76)).belowR hb' hB).alloc (.cells #[.int .i64 3, .int .i64 0, .int .i64 0, .int .i64 0, .int .i64 (-1000), .bool false] 76)).belowR hb2 hB).more (by omega) (Nat.le_refl _) (by have := hb2.size; simp at this; have := hb'.size; simp at this; omega), on_belowR hb2 (Nat.le_refl _) (on_alloc (on_belowR hb' (Nat.le_refl _) (on_alloc O2.out _)) _)⟩
    · go_wp2_with fail
      refine (pick_any _ B g _ _ hrd (by omega) (by omega) (by omega)).mono ?_
      rintro e u1 ⟨r, hr0, hr1, rfl, hrd1, hon1⟩
      have hol1 := hol.readI hon1 (by omega)
      have O2 := hide (on_call hon1 hon)
      have hz1 := hon1.size
      clear hol hon hon1 hrd
      go_wp2_with (first | (at_builtin; refine wpList_append_rec rfl (.tmp 13) (.tmp 19) _ rfl 76 i0 _ 48 Try.underlying26 hi0 jz0 jz1 jz2 rfl (by decide) w.heap.size A cc q L rfl (HPL.out) (hol1.alloc _) u1.heap.size ⟨1, 2 + r, 0, 0, 0, false⟩ rfl (ones6 _) (cells6 _ _ _ _ _ _ rfl) (by omega) (by simp; omega) ?_; intro A' c' w' hol' hb' hg') | fail)
      have HPL2 : Hid (q + 1 = (L ++ [(⟨1, 2 + r, 0, 0, 0, false⟩ : It)]).length) := hide (by rw [List.length_append, ← HPL.out]; rfl)
      have hzq := hb'.size
      simp at hzq
      have hrd2 := (hrd1.alloc (.cells #[.int .i64 1, .int .i64 (2 + r), .int .i64 0, .int .i64 0, .int .i64 0, .bool false] 76)).belowR hb' hB
      have O3 := hide (on_belowR hb' (Nat.le_refl _) (on_alloc O2.out (.cells #[.int .i64 1, .int .i64 (2 + r), .int .i64 0, .int .i64 0, .int .i64 0, .bool false] 76)))
      obtain ⟨LL, hLL⟩ : ∃ LL, LL = L ++ [(⟨1, 2 + r, 0, 0, 0, false⟩ : It)] := ⟨_, rfl⟩
      rw [← hLL] at hol' HPL2
      clear hb' hg' hol1 hrd1 hLL O2
      refine (pick_any _ B g _ _ hrd2 (by omega) (by omega) (by omega)).mono ?_
      rintro e u2 ⟨s, hs0, hs1, rfl, hrd3, hon3⟩
      have hol3 := hol'.readI hon3 (by omega)
      have O4 := hide (on_call hon3 O3.out)
      have hz3 := hon3.size
      have hg3 := hrd3.lt
      clear hol' hon3 hrd2
      rcases (by omega : s = 0 ∨ s = 1 ∨ 2 ≤ s) with rfl | rfl | hs
      · go_wp2_with fail
        refine (pick_any _ B g _ _ hrd3 (by omega) (by omega) (by omega)).mono ?_
        rintro e u3 ⟨x, hx0, hx1, rfl, hrd4, hon4⟩
        have hol4 := hol3.readI hon4 (by omega)
        have O5 := hide (on_call hon4 O4.out)
        have hz4 := hon4.size
        have hg4 := hrd4.lt
        clear hol3 hon4 hrd3
        go_wp2_with fail
        refine (one_any _ B g _ _ _ (fun _ => True) (hrd4.alloc _) (by omega) (by exact heap_alloc_new _ _) (by omega) (by rfl) (by decide) (by simp)).mono ?_
        rintro e u4 ⟨y, _, rfl, hrd5, hon5⟩
        have hol5 := (hol4.alloc _).readI hon5 (by omega)
        have O6 := hide (on_call hon5 (on_alloc O5.out _))
        have hz5 := hon5.size
        simp at hz5
        clear hol4 hon5 hrd4
        go_wp2_with fail
        refine (pick_any _ B g _ _ hrd5 (by omega) (by omega) (by omega)).mono ?_
        rintro e u5 ⟨z, hz0, hz1', rfl, hrd6, hon6⟩
        have hol6 := hol5.readI hon6 (by omega)
        have O7 := hide (on_call hon6 O6.out)
        have hz6 := hon6.size
        clear hol5 hon6 hrd5
        go_wp2_with (at_builtin; refine wpList_append_rec rfl (.tmp 40) (.tmp 51) _ rfl 76 i0 _ 48 Try.underlying26 hi0 jz0 jz1 jz2 rfl (by decide) w.heap.size A' c' (q + 1) LL rfl (HPL2.out) (hol6.alloc _) u5.heap.size ⟨3, x, 0, 0, y, z == 0⟩ rfl (ones6 _) (cells6 _ _ _ _ _ _ rfl) (by omega) (by simp; omega) ?_; intro A' c' w' hol' hb' hg')
        go_roundw
        case rel => exact ⟨q + 2, m - 1, _, _, _, by omega, by go_num, rfl, by rw [List.length_append, ← HPL2.out]; rfl, hol', ((hrd6.alloc _).belowR hb' hB).more (by omega) (Nat.le_refl _) ((hrd6.alloc _).belowR hb' hB).2.1, on_belowR hb' (Nat.le_refl _) (on_alloc O7.out _)⟩
        case measure => simp [intOf]; omega
      · go_wp2_with fail
        refine (one_any _ B g _ _ _ (fun _ => True) (hrd3.alloc _) (by omega) (by exact heap_alloc_new _ _) (by omega) (by rfl) (by decide) (by simp)).mono ?_
        rintro e u4 ⟨y, _, rfl, hrd5, hon5⟩
        have hol5 := (hol3.alloc _).readI hon5 (by omega)
        have O6 := hide (on_call hon5 (on_alloc O4.out _))
        have hz5 := hon5.size
        simp at hz5
        clear hol3 hon5 hrd3
        go_wp2_with (at_builtin; refine wpList_append_rec rfl (.tmp 55) (.tmp 60) _ rfl 76 i0 _ 48 Try.underlying26 hi0 jz0 jz1 jz2 rfl (by decide) w.heap.size A' c' (q + 1) LL rfl (HPL2.out) (hol5.alloc _) u4.heap.size ⟨3, 0, 0, 0, y, false⟩ rfl (ones6 _) (cells6 _ _ _ _ _ _ rfl) (by omega) (by simp; omega) ?_; intro A' c' w' hol' hb' hg')
        go_roundw
        case rel => exact ⟨q + 2, m - 1, _, _, _, by omega, by go_num, rfl, by rw [List.length_append, ← HPL2.out]; rfl, hol', ((hrd5.alloc _).belowR hb' hB).more (by omega) (Nat.le_refl _) ((hrd5.alloc _).belowR hb' hB).2.1, on_belowR hb' (Nat.le_refl _) (on_alloc O6.out _)⟩
        case measure => simp [intOf]; omega
      · have gs0 : (s == 0) = false := beq_eq_false_iff_ne.2 (by omega)
        have gs1 : (s == 1) = false := beq_eq_false_iff_ne.2 (by omega)
        go_wp2_with fail
        refine (pick_any _ B g _ _ hrd3 (by omega) (by omega) (by omega)).mono ?_
        rintro e u3 ⟨x, hx0, hx1, rfl, hrd4, hon4⟩
        have hol4 := hol3.readI hon4 (by omega)
        have O5 := hide (on_call hon4 O4.out)
        have hz4 := hon4.size
        clear hol3 hon4 hrd3
        go_wp2_with fail
        refine (pick_any _ B g _ _ hrd4 (by omega) (by omega) (by omega)).mono ?_
        rintro e u4 ⟨y, hy0, hy1, rfl, hrd5, hon5⟩
        have hol5 := hol4.readI hon5 (by omega)
        have O6 := hide (on_call hon5 O5.out)
        have hz5 := hon5.size
        clear hol4 hon5 hrd4
        go_wp2_with fail
        refine (pick_any _ B g _ _ hrd5 (by omega) (by omega) (by omega)).mono ?_
        rintro e u5 ⟨z, hz0, hz1', rfl, hrd6, hon6⟩
        have hol6 := hol5.readI hon6 (by omega)
        have O7 := hide (on_call hon6 O6.out)
        have hz6 := hon6.size
        clear hol5 hon6 hrd5
        go_wp2_with (at_builtin; refine wpList_append_rec rfl (.tmp 26) (.tmp 36) _ rfl 76 i0 _ 48 Try.underlying26 hi0 jz0 jz1 jz2 rfl (by decide) w.heap.size A' c' (q + 1) LL rfl (HPL2.out) (hol6.alloc _) u5.heap.size ⟨2, 2 + x, y, z, 0, false⟩ rfl (ones6 _) (cells6 _ _ _ _ _ _ rfl) (by omega) (by simp; omega) ?_; intro A' c' w' hol' hb' hg')
        go_roundw
        case rel => exact ⟨q + 2, m - 1, _, _, _, by omega, by go_num, rfl, by rw [List.length_append, ← HPL2.out]; rfl, hol', ((hrd6.alloc _).belowR hb' hB).more (by omega) (Nat.le_refl _) ((hrd6.alloc _).belowR hb' hB).2.1, on_belowR hb' (Nat.le_refl _) (on_alloc O7.out _)⟩
        case measure => simp [intOf]; omega

theorem tgI_set {L : List It} {i j : Nat} {x : It} (hj : j < L.length) : tg (L.set i x) j = if i = j then x else tg L j := by
  rw [tg_lt (by simpa using hj), List.getElem_set, tg_lt hj]
theorem flat_set6 {L : List It} {i j : Nat} {x : It} {v : Value} (hi : i < L.length) (hj : j < 6) (hx : Rec.cells x = (Rec.cells (tg L i)).set j v) : (L.flatMap Rec.cells).set (i * 6 + j) v = (L.set i x).flatMap Rec.cells := by
  have hl : (L.flatMap Rec.cells).length = L.length * 6 := flat_len L
  have hl2 : ((L.set i x).flatMap Rec.cells).length = L.length * 6 := by have := flat_len (L.set i x); rw [List.length_set] at this; exact this
  apply List.ext_getElem?
  intro m
  by_cases hm : m < L.length * 6
  · obtain ⟨q, r, hr, rfl⟩ : ∃ q r, r < 6 ∧ m = q * 6 + r := ⟨m / 6, m % 6, Nat.mod_lt _ (by omega), by omega⟩
    have hq : q < L.length := by omega
    have e1 := flat_get (L.set i x) (i := q) (j := r) (by rw [List.length_set]; exact hq) (show r < Rec.size It from hr)
    have e2 := flat_get L (i := q) (j := r) hq (show r < Rec.size It from hr)
    rw [tgI_set hq] at e1
    change (List.flatMap Rec.cells (L.set i x))[q * 6 + r]? = _ at e1
    change (List.flatMap Rec.cells L)[q * 6 + r]? = _ at e2
    rw [e1, List.getElem?_set, hl]
    by_cases e : i = q
    · subst e
      rw [if_pos rfl, hx, List.getElem?_set]
      have hcl : (Rec.cells (tg L i)).length = 6 := Rec.len _
      by_cases e3 : j = r
      · subst e3
        rw [if_pos rfl, if_pos (by omega), if_pos rfl, if_pos (by omega)]
      · rw [if_neg (by omega), if_neg e3, e2]
    · rw [if_neg (by omega), if_neg e, e2]
  · rw [List.getElem?_eq_none (by rw [List.length_set]; omega), List.getElem?_eq_none (by omega)]
theorem TO.set6 {w : World} {e : TypeId} {B g c : Nat} {L : List It} (h : TO w e B (some ⟨g, 0, none⟩) c L) {i j : Nat} {x : It} {v : Value} (hi : i < L.length) (hj : j < 6) (hx : Rec.cells x = (Rec.cells (tg L i)).set j v) : TO (w.setCell ⟨g, i * 6 + j, none⟩ v) e B (some ⟨g, 0, none⟩) c (L.set i x) := by
  have s0 := (World.ownsRow.stored h (i * 6 + j) v).1
  rw [flat_set6 hi hj hx] at s0
  unfold TO
  rw [List.length_set]
  exact s0
theorem flat_take (L : List It) (k : Nat) : (L.take k).flatMap Rec.cells = (L.flatMap Rec.cells).take (k * 6) := by
  induction L generalizing k with
  | nil => simp
  | cons x L ih =>
    cases k with
    | zero => simp
    | succ k =>
      have hl : (Rec.cells x).length = 6 := Rec.len x
      have e : List.take ((k + 1) * 6) (Rec.cells x) = Rec.cells x := List.take_of_length_le (by omega)
      rw [List.take_succ_cons, List.flatMap_cons, List.flatMap_cons, ih, List.take_append, e, hl, show (k + 1) * 6 - 6 = k * 6 by omega]
theorem TO.take {w : World} {e : TypeId} {B c : Nat} {A : Option Addr} {L : List It} (h : TO w e B A c L) {k : Nat} (hk : k ≤ L.length) (h0 : 0 < L.length) : TO w e B A c (L.take k) := by
  have hl : (L.take k).length = k := by simp; omega
  unfold TO at h ⊢
  rw [hl]
  refine ⟨by rw [flat_len, hl], ?_⟩
  rcases h.2 with ⟨_, h1⟩ | ⟨g, cap, cur, h1, h2, h3, h4, h5, h6, h7⟩
  · omega
  · injection h1 with h1 _ h8
    refine .inr ⟨g, cap, cur, by rw [h1, h8], h2, h3, by omega, h5, h6, ?_⟩
    rw [flat_take, ← h7, List.take_take]
    congr 1
    show k * 6 = min (k * 6) (L.length * 6)
    omega

set_option maxHeartbeats 4000000 in
theorem anyItems_any (w : World) (B g N : Nat) (h : RD w B g N) (hN : N ≤ 10000000) (hB : B ≤ w.heap.size) :
    Calls Try.prog 104 #[.pointer (some ⟨g, 0, none⟩)] w fun e w' => ∃ (A : Option Addr) (c : Nat) (L : List It), e = .returned (.slice A L.length c) ∧ TO w' 76 w.heap.size A c L ∧ L.length ≤ 23 ∧ RD w' B g (N + 80) ∧ w.grownBy w' (some g) := by
  have hg := h.lt
  go_enter Try.func104, Try.ntmps104
  go_wp2_with fail
  refine (randomItems_any _ B g _ h (by omega) hB).mono ?_
  rintro e u0 ⟨A, c, L, rfl, hol, ⟨hl1, hl2⟩, hrd, hon⟩
  have hz0 := hon.size
  go_wp2_with fail
  refine (pick_any _ B g _ _ hrd (by omega) (by omega) (by omega)).mono ?_
  rintro e u1 ⟨k, hk0, hk1, rfl, hrd1, hon1⟩
  obtain ⟨k, rfl⟩ := Int.eq_ofNat_of_zero_le hk0
  have hkl : k < L.length := by omega
  have hol1 := hol.readI hon1 (by have := h.1; omega)
  have O1 := hide (on_call hon1 hon)
  have hz1 := hon1.size
  clear hol hon1 hrd hk0 hk1
  go_wp2_with fail
  refine (pick_any _ B g _ _ hrd1 (by omega) (by omega) (by omega)).mono ?_
  rintro e u2 ⟨r, hr0, hr1, rfl, hrd2, hon2⟩
  have hol2 := hol1.readI hon2 (by have := h.1; omega)
  have O2 := hide (on_call hon2 O1.out)
  have hz2 := hon2.size
  have hgB := h.1
  have hg2 := hrd2.lt
  clear hol1 hon2 hrd1
  rcases (by omega : r = 0 ∨ r = 1 ∨ r = 2 ∨ r = 3 ∨ 4 ≤ r) with rfl | rfl | rfl | rfl | hr
  iterate 3
    · go_wp2_with fail
      refine (one_any _ B g _ _ _ (fun _ => True) (hrd2.alloc _) (by omega) (by exact heap_alloc_new _ _) (by omega) (by rfl) (by decide) (by simp)).mono ?_
      rintro e u3 ⟨z, _, rfl, hrd3, hon3⟩
      have hol3 := (hol2.alloc _).readI hon3 (by omega)
      have O3 := hide (on_call hon3 (on_alloc O2.out _))
      have hz3 := hon3.size
      simp at hz3
      obtain ⟨g', rfl, hBg, hgz, hfz⟩ := hol3.frozen (by omega)
      obtain ⟨b, o, he, _, c0, c1, c2, c3, c4, c5⟩ := hol3.reads.at6 (i := k) hkl
      injection he with he
      cases he
      rw [Nat.zero_add] at c0 c1 c2 c3 c4 c5
      have f0 := hfz (k * 6)
      have f1 := hfz (k * 6 + 1)
      have f4 := hfz (k * 6 + 4)
      have S0 := hide (hol3.set6 (i := k) (j := 0) (x := ⟨z, (tg L k).w, (tg L k).st, (tg L k).sh, (tg L k).p, (tg L k).f⟩) (v := .int .i64 z) hkl (by omega) rfl)
      have S1 := hide (hol3.set6 (i := k) (j := 1) (x := ⟨(tg L k).k, z, (tg L k).st, (tg L k).sh, (tg L k).p, (tg L k).f⟩) (v := .int .i64 z) hkl (by omega) rfl)
      have S4 := hide (hol3.set6 (i := k) (j := 4) (x := ⟨(tg L k).k, (tg L k).w, (tg L k).st, (tg L k).sh, z, (tg L k).f⟩) (v := .int .i64 z) hkl (by omega) rfl)
      clear hfz hol3 hon3 hol2
      go_wp2
      go_ret
      first
      | exact ⟨_, c, _, by rw [List.length_set]; rfl, S0.out, by rw [List.length_set]; omega, (hrd3.set_ (Nat.le_trans hB hBg) _).more (by omega) (Nat.le_refl _) (by simp; omega), on_set O3.out (.inr hBg) _⟩
      | exact ⟨_, c, _, by rw [List.length_set]; rfl, S1.out, by rw [List.length_set]; omega, (hrd3.set_ (Nat.le_trans hB hBg) _).more (by omega) (Nat.le_refl _) (by simp; omega), on_set O3.out (.inr hBg) _⟩
      | exact ⟨_, c, _, by rw [List.length_set]; rfl, S4.out, by rw [List.length_set]; omega, (hrd3.set_ (Nat.le_trans hB hBg) _).more (by omega) (Nat.le_refl _) (by simp; omega), on_set O3.out (.inr hBg) _⟩
  · obtain ⟨m, hm⟩ : ∃ m, L.length = m + 1 := ⟨L.length - 1, by omega⟩
    have em : (L.length : Int) - 1 = (m : Int) := by omega
    obtain ⟨g', rfl, hBg, hgz, hlc, hcm⟩ := hol2.form (by omega)
    have S := hide (hol2.take (k := m) (by omega) (by omega))
    have hmc : m ≤ c := by omega
    have hc0 : ¬ c = 0 := by omega
    unfold maxLen at hcm
    have HM := hide hm
    clear hol2 hm
    go_wp2
    go_ret
    exact ⟨_, c, _, by rw [List.length_take, HM.out, Nat.min_eq_left (by omega)]; rfl, S.out, by rw [List.length_take]; omega, hrd2.more (by omega) (Nat.le_refl _) hrd2.2.1, O2.out⟩
  · have g0 : (r == 0) = false := beq_eq_false_iff_ne.2 (by omega)
    have g1 : (r == 1) = false := beq_eq_false_iff_ne.2 (by omega)
    have g2 : (r == 2) = false := beq_eq_false_iff_ne.2 (by omega)
    have g3 : (r == 3) = false := beq_eq_false_iff_ne.2 (by omega)
    go_wp2
    go_ret
    exact ⟨A, c, L, rfl, hol2, hl2, hrd2.more (by omega) (Nat.le_refl _) hrd2.2.1, O2.out⟩
end Go.Proofs.Ytafddofajfcffaa

/- Drawn lists of integers. -/
namespace Go.Proofs.Ytafddofajfcffaa
open Go.ChangeShapes Go.WideShapes Go.ChangeAt Go.RowKit
set_option linter.unusedVariables false

section
variable {w w' : World} {B B' g N : Nat}
theorem RD.below' (h : RD w B g N) (hb : Below B' w w') (hB : B ≤ B') : RD w' B g N :=
  h.keep (fun _ hq => hb.cell (Nat.lt_of_lt_of_le hq hB)) (fun _ hq => hb.frozen (Nat.lt_of_lt_of_le hq hB)) hb.size
theorem on_below' {a : World} (h : Below B w w') (hB : a.heap.size ≤ B) (h0 : a.grownBy w (some g)) : a.grownBy w' (some g) :=
  ⟨h.os.trans h0.os, h.tape.trans h0.tape, h.output.trans h0.output, Nat.le_trans h0.size h.size, fun i hi hne => (h.block i (by omega)).trans (h0.block i hi hne)⟩
/-- What the call owns stays while the reader reads. -/
theorem OL.read {e : TypeId} {A : Option Addr} {c : Nat} {l : List Int} (h : OL w e B A c l) (hg : w.grownBy w' (some g)) (hlt : g < B) : OL w' e B A c l :=
  h.kept hg (fun k hk e => by
    have := (h.own_lt k hk).1
    injection e with e
    omega)
end


theorem someWidth_any (w : World) (B g N : Nat) (h : RD w B g N) (hN : N ≤ 1000000000) :
    Calls Try.prog 109 #[.pointer (some ⟨g, 0, none⟩)] w fun e w' => ∃ z : Int, (0 ≤ z ∧ z ≤ 10001) ∧ e = .returned (.int .i64 z) ∧ RD w' B g (N + 2) ∧ w.grownBy w' (some g) := by
  have hlt := h.lt
  go_enter Try.func109, Try.ntmps109
  go_wp2_with fail
  refine (pick_any _ B g _ _ h (by omega) (by omega) (by omega)).mono ?_
  rintro e u0 ⟨r, hr0, hr1, rfl, hrd1, hon1⟩
  have hlt1 := hrd1.lt
  rcases (by omega : r = 0 ∨ 0 < r) with rfl | hr
  all_goals
    go_wp2_with fail
    refine (one_any _ B g _ _ _ (fun z => 0 ≤ z ∧ z ≤ 10001) (hrd1.alloc _) (by omega) (by exact heap_alloc_new _ _) (by omega) (by rfl) (by decide) (by simp)).mono ?_
    rintro e u1 ⟨z, hz, rfl, hrd2, hon2⟩
    go_wp2
    go_ret
    exact ⟨z, hz, rfl, hrd2.more (by omega) (Nat.le_refl _) (by have := hrd2.2.1; omega), on_call hon2 (on_alloc (on_call hon1 (on_refl _ _)) _)⟩


end Go.Proofs.Ytafddofajfcffaa

/- Drawn lines of paragraphs, widths and tolerances. -/
namespace Go.Proofs.Ytafddofajfcffaa
open Go.ChangeShapes Go.WideShapes Go.ChangeAt Go.RowKit
set_option linter.unusedVariables false

theorem OL.none_capl {w : World} {e : TypeId} {B : Nat} {A : Option Addr} {c : Nat} {l : List Int} (h : OL w e B A c l) : A = none → c = 0 := fun e => by
  subst e
  rcases h.2 with ⟨h1, _⟩ | ⟨g, cap, cur, h1, _⟩
  · injection h1
  · cases h1
theorem brTo_mem {L : List It} : ∀ {k : Nat} {x : Int}, x ∈ brTo L k → 0 ≤ x ∧ x < (k : Int)
  | 0, x, h => by simp [brTo] at h
  | k + 1, x, h => by
    simp only [brTo] at h
    split at h
    · rw [List.mem_append] at h
      rcases h with h | h
      · have := brTo_mem h; omega
      · simp at h; omega
    · have := brTo_mem h; omega
theorem brO_in {L : List It} (hl : L.length ≤ 23) {j : Nat} (hj : j < ([-1] ++ brO L).length) : -1 ≤ ng ([-1] ++ brO L) j ∧ ng ([-1] ++ brO L) j ≤ 23 := by
  rw [ng_lt hj]
  have hm := List.getElem_mem hj
  generalize ([-1] ++ brO L)[j] = v at hm ⊢
  rw [List.mem_append] at hm
  rcases hm with h | h
  · simp at h; omega
  · cases hok : isOk L
    · rw [brO_no hok] at h; simp at h
    · rw [brO_yes hok] at h
      have := brTo_mem h
      omega
theorem someTolerance_any (w : World) (B g N : Nat) (h : RD w B g N) (hN : N ≤ 100000000) (hB : B ≤ w.heap.size) :
    Calls Try.prog 110 #[.pointer (some ⟨g, 0, none⟩)] w fun e w' => ∃ z : Int, e = .returned (.int .i64 z) ∧ (-1 ≤ z ∧ z ≤ 20000) ∧ RD w' B g (N + 1) ∧ w.grownBy w' (some g) := by
  have hg := h.lt
  go_enter Try.func110, Try.ntmps110
  go_wp2_with fail
  refine (one_any _ B g _ _ _ (fun z => -1 ≤ z ∧ z ≤ 20000) (h.alloc _) (by omega) (by exact heap_alloc_new _ _) (by omega) (by rfl) (by decide) (by intro v hv; simp at hv; rcases hv with rfl | rfl | rfl | rfl | rfl | rfl | rfl | rfl | rfl | rfl <;> exact ⟨_, rfl, by omega⟩)).mono ?_
  rintro e u1 ⟨z, hz, rfl, hrd2, hon2⟩
  have O2 := hide (on_call hon2 (on_alloc (on_refl w (some g)) _))
  go_wp2
  go_ret
  exact ⟨z, rfl, hz, hrd2, O2.out⟩
set_option maxRecDepth 4000 in
set_option maxHeartbeats 4000000 in
theorem someLine_any (w : World) (B g N : Nat) (h : RD w B g N) (hN : N ≤ 1000000) (hB : B ≤ w.heap.size) :
    Calls Try.prog 153 #[.pointer (some ⟨g, 0, none⟩)] w fun e w' => ∃ (A : Option Addr) (c : Nat) (L : List It) (x y : Int), e = .returned (.tuple #[.slice A L.length c, .int .i64 x, .int .i64 y]) ∧ TO w' 76 w.heap.size A c L ∧ L.length ≤ 23 ∧ (-1 ≤ x ∧ x ≤ 23) ∧ (-1 ≤ y ∧ y ≤ 23) ∧ RD w' B g (N + 84) ∧ w.grownBy w' (some g) := by
  have hg := h.lt
  have hgB := h.1
  obtain ⟨i0, hi0, jz0, jz1, jz2⟩ := info_parts int_info
  go_enter Try.func153, Try.ntmps153
  go_wp2_with fail
  (with_reducible refine (anyItems_any w B g N h (by omega) hB).mono ?_)
  rintro e u0 ⟨A, c, L, rfl, hol, hl, hrd, hon⟩
  have hz0 := hon.size
  have HR := hide (hol.reads.alloc (.cells #[.int .i64 (-1)] 3))
  have H0 : Hid (OL (u0.alloc (.cells #[.int .i64 (-1)] 3)) 3 u0.heap.size (some ⟨u0.heap.size, 0, none⟩) 1 [-1]) := hide (by
    have := OL.lit (w := u0) (e := 3) (B := u0.heap.size) (Nat.le_refl _) [-1] (by simp [maxLen])
    simpa using this)
  have HO := hide hol
  have HRD := hide hrd
  have HON := hide hon
  have BO := fun (u : World) (h : TL u A L.length L) => BreaksOf_s u A L.length c L h (by omega)
  unfold RetL at BO
  have hlb := brO_len L
  obtain ⟨R, hR⟩ : ∃ R, R = brO L := ⟨_, rfl⟩
  rw [← hR] at BO hlb
  have HBO := hide BO
  have HIN := hide (fun (j : Nat) (hj : j < ([-1] ++ R).length) => show -1 ≤ ng ([-1] ++ R) j ∧ ng ([-1] ++ R) j ≤ 23 by rw [hR] at hj ⊢; exact brO_in hl hj)
  clear hol hrd hon h BO hR
  go_wp2_with fail
  (with_reducible refine (HBO.out _ HR.out).mono ?_)
  rintro e u1 ⟨A1, c1, rfl, hb1, hbl1⟩
  have H1 := hide (H0.out.below hbl1)
  have HB01 := hide (bl_call hbl1 (bl_alloc (bl_refl u0) (.cells #[.int .i64 (-1)] 3)))
  have hz1 := hbl1.size
  simp at hz1
  have HIB := hide hb1.reads
  have HNC := hide hb1.none_capl
  clear hbl1 hb1
  go_wp2_with (at_builtin; (refine wpList_append_list rfl (.tmp 11) (.tmp 13) _ rfl 3 i0 Try.underlying24 hi0 jz0 jz1 jz2 u0.heap.size (some ⟨u0.heap.size, 0, none⟩) 1 1 [-1] rfl rfl H1.out A1 R.length c1 R rfl HIB.out HNC.out (by omega) (by omega) ?_); intro A2 c2 u2 hol2 hb2 hg2)
  have hrl : ([-1] ++ R).length = 1 + R.length := by simp; omega
  obtain ⟨l2, hl2⟩ : ∃ l2, l2 = [-1] ++ R := ⟨_, rfl⟩
  rw [← hl2] at hol2 hrl HIN
  have hb02 := HB01.out.trans hb2
  have hz2 := hb02.size
  have hgu : g < u0.heap.size := by omega
  have HO2 := hide (HO.out.below hb02)
  have HRD2 := hide (HRD.out.below hb02)
  have O2 := hide (on_below hb02 HON.out)
  have HOL := hide hol2
  clear hol2 hb2 hg2 hb02 H1 HB01 HR HBO HIB HNC HO HRD HON H0
  go_wp2_with fail
  rw [show (1 : Int) + (R.length : Int) = ((1 + R.length : Nat) : Int) by omega]
  (with_reducible refine (pick_any _ B g _ _ HRD2.out (by omega) (by omega) (by omega)).mono ?_)
  rintro e u3 ⟨s, s0, s1, rfl, hrd3, hon3⟩
  obtain ⟨s, rfl⟩ := Int.eq_ofNat_of_zero_le s0
  have HOL := hide (HOL.out.read hon3 (by omega))
  have HO2 := hide (HO2.out.readI hon3 (by omega))
  have O2 := hide (on_call hon3 O2.out)
  have hz3 := hon3.size
  have HRD2 := hide hrd3
  have hsl : s < l2.length := by omega
  obtain ⟨b', o', hA, hb', cs⟩ := HOL.out.reads.at_ (i := s) hsl
  obtain ⟨x, hx⟩ : ∃ x, x = ng l2 s := ⟨_, rfl⟩
  have bx : -1 ≤ x ∧ x ≤ 23 := by rw [hx]; exact HIN.out s hsl
  rw [← hx] at cs
  have i1 : (s : Int) < ((1 + R.length : Nat) : Int) := by omega
  have i2 : (0 : Int) ≤ (s : Int) := by omega
  have i3 : s < 1 + R.length := by omega
  subst hA
  clear hon3 hrd3 hx
  go_wp2_with fail
  (with_reducible refine (pick_any _ B g _ _ HRD2.out (by omega) (by omega) (by omega)).mono ?_)
  rintro e u4 ⟨r, r0, r1, rfl, hrd4, hon4⟩
  clear cs i1 i2 i3 hb' s0 s1
  obtain ⟨r, rfl⟩ := Int.eq_ofNat_of_zero_le r0
  have HOL := hide (HOL.out.read hon4 (by omega))
  have HO2 := hide (HO2.out.readI hon4 (by omega))
  have O2 := hide (on_call hon4 O2.out)
  have hz4 := hon4.size
  have HRD2 := hide hrd4
  have hrl : r < l2.length := by omega
  obtain ⟨b2, o2, hA, hb2, cs⟩ := HOL.out.reads.at_ (i := r) hrl
  injection hA with hA
  cases hA
  obtain ⟨y, hy⟩ : ∃ x, x = ng l2 r := ⟨_, rfl⟩
  have by1 : -1 ≤ y ∧ y ≤ 23 := by rw [hy]; exact HIN.out r hrl
  rw [← hy] at cs
  have i1 : (r : Int) < ((1 + R.length : Nat) : Int) := by omega
  have i2 : (0 : Int) ≤ (r : Int) := by omega
  have i3 : r < 1 + R.length := by omega
  clear hon4 hrd4 hy
  rcases (by omega : y < x ∨ x ≤ y) with hxy | hxy
  · go_wp2
    go_ret3
    exact ⟨A, c, L, y, x, rfl, HO2.out.more (by omega), hl, by1, bx, HRD2.out.more (by omega) (Nat.le_refl _) (by omega), O2.out⟩
  · have hg2 : ¬ y < x := by omega
    go_wp2_with fail
    (with_reducible refine (pick_any _ B g _ _ HRD2.out (by omega) (by omega) (by omega)).mono ?_)
    rintro e u5 ⟨k, k0, k1, rfl, hrd5, hon5⟩
    have HO2 := hide (HO2.out.readI hon5 (by omega))
    have O2 := hide (on_call hon5 O2.out)
    have hz5 := hon5.size
    clear hon5 cs
    rcases (by omega : k = 0 ∨ k ≠ 0) with rfl | hk
    · go_wp2_with fail
      refine (one_any _ B g _ _ _ (fun z => -1 ≤ z ∧ z ≤ 23) (hrd5.alloc _) (by omega) (by exact heap_alloc_new _ _) (by omega) (by rfl) (by decide) (by intro v hv; simp at hv; rcases hv with rfl | rfl | rfl <;> exact ⟨_, rfl, by omega⟩)).mono ?_
      rintro e u6 ⟨z, hz, rfl, hrd6, hon6⟩
      have HO3 := hide ((HO2.out.alloc _).readI hon6 (by omega))
      have O3 := hide (on_call hon6 (on_alloc O2.out _))
      have hz6 := hon6.size
      simp at hz6
      clear hon6
      go_wp2
      go_ret3
      exact ⟨A, c, L, x, z, rfl, HO3.out.more (by omega), hl, bx, hz, hrd6.more (by omega) (Nat.le_refl _) (by omega), O3.out⟩
    · have hk' : (k == 0) = false := beq_eq_false_iff_ne.2 hk
      go_wp2
      go_ret3
      exact ⟨A, c, L, x, y, rfl, HO2.out.more (by omega), hl, bx, by1, hrd5.more (by omega) (Nat.le_refl _) (by omega), O2.out⟩
end Go.Proofs.Ytafddofajfcffaa

/- The laws on lines hold for every code: lines have the boxes between their breaks, boxes are between their breaks. No condition. -/
namespace Go.Proofs.Ytafddofajfcffaa
open Go.ChangeShapes Go.WideShapes Go.ChangeAt Go.RowKit
set_option linter.unusedVariables false

theorem small_rown {w : World} {a : Option Addr} {n c : Nat} {zs : List Int} (h : IsRow .u8 w a n c zs) : n ≤ maxLen := by
  rcases h with ⟨_, rfl, _, _⟩ | ⟨_, _, hl, hm, _⟩
  · exact Nat.zero_le _
  · omega
/-- The widths of the first boxes of a list. -/
def pS (L : List It) (R : List Int) : Nat → Int
  | 0 => 0
  | k + 1 => pS L R k + (tg L (ng R k).toNat).w
theorem pS_app {L : List It} {R : List Int} {x : Int} : ∀ {k : Nat}, k ≤ R.length → pS L (R ++ [x]) k = pS L R k
  | 0, _ => rfl
  | k + 1, h => by
    simp only [pS]
    rw [pS_app (by omega), ng_lt (by simp; omega), ng_lt (by omega), List.getElem_append_left (by omega)]
theorem pS_le {L : List It} (hall : ∀ i, i < L.length → itOk (tg L i) = true) {p : Nat} : ∀ {d : Nat}, p + d ≤ L.length → pS L (bxN L p d) (bxN L p d).length ≤ sW L (p + d) - sW L p
  | 0, _ => by simp [bxN, pS]
  | d + 1, h => by
    have ih := pS_le hall (p := p) (d := d) (by omega)
    have hi := in_bd hall (k := p + d) (by omega)
    have e : sW L (p + (d + 1)) = sW L (p + d) + inW (tg L (p + d)) := rfl
    simp only [bxN]
    by_cases hb : isB (tg L (p + d)) = true
    · rw [if_pos hb, List.length_append]
      simp only [List.length_singleton, pS]
      rw [pS_app (Nat.le_refl _), ng_lt (by simp), List.getElem_append_right (Nat.le_refl _)]
      simp only [Nat.sub_self, List.getElem_singleton, Int.toNat_natCast]
      have hk := of_decide_eq_true hb
      have : inW (tg L (p + d)) = (tg L (p + d)).w := by unfold inW; rw [if_neg (by omega)]
      omega
    · rw [if_neg hb]; omega
theorem pS_bd {L : List It} (hall : ∀ i, i < L.length → itOk (tg L i) = true) {R : List Int} (hR : ∀ j, j < R.length → ∃ m : Nat, ng R j = (m : Int) ∧ m < L.length) : ∀ {k : Nat}, k ≤ R.length → 0 ≤ pS L R k ∧ pS L R k ≤ 1000 * k
  | 0, _ => by simp [pS]
  | k + 1, h => by
    have ih := pS_bd hall hR (k := k) (by omega)
    obtain ⟨m, e, hm⟩ := hR k (by omega)
    simp only [pS]
    rw [e, Int.toNat_natCast]
    rcases iok_iff.1 (hall m hm) with x | x | x <;> omega
theorem bxN_ng {L : List It} {p d j : Nat} (h : j < (bxN L p d).length) : ∃ m : Nat, ng (bxN L p d) j = (m : Int) ∧ p ≤ m ∧ m < p + d := by
  rw [ng_lt h]
  obtain ⟨m, a, b, c, _⟩ := bxN_in (List.getElem_mem h)
  exact ⟨m, a, b, c⟩
theorem bxN_mem {L : List It} {p i : Nat} : ∀ {d : Nat}, p ≤ i → i < p + d → ((((i : Nat) : Int) ∈ bxN L p d) ↔ isB (tg L i) = true)
  | 0, h1, h2 => by omega
  | d + 1, h1, h2 => by
    constructor
    · intro h
      obtain ⟨j, a, b, c, e⟩ := bxN_in h
      obtain rfl : i = j := by omega
      exact e
    · intro h
      simp only [bxN]
      rcases (by omega : i < p + d ∨ i = p + d) with e | e
      · have := (bxN_mem (L := L) (d := d) h1 e).2 h
        split
        · exact List.mem_append_left _ this
        · exact this
      · rw [← e, if_pos h]; simp
theorem glue_neq (a b c : Int) (W : World) : (binOp .neq 70 (gv a b c) (gv a b c)).run Try.prog W = .ok (.bool false) W := by
  have : (binOp .neq 70 (gv a b c) (gv a b c)).run Try.prog W = (.ok (.bool (!(((a == a) && (b == b)) && (c == c)))) W) := by simp [go_sem]
  rw [this]; simp
theorem glue_eql (a b c : Int) (W : World) : (binOp .eql 70 (gv a b c) (gv a b c)).run Try.prog W = .ok (.bool true) W := by
  have : (binOp .eql 70 (gv a b c) (gv a b c)).run Try.prog W = (.ok (.bool ((((a == a) && (b == b)) && (c == c)))) W) := by simp [go_sem]
  rw [this]; simp
end Go.Proofs.Ytafddofajfcffaa

/- The laws on fitting lines and their cost hold for every code: lines fit like their glue, allowed lines are not overfull. No condition. -/
namespace Go.Proofs.Ytafddofajfcffaa
open Go.ChangeShapes Go.WideShapes Go.ChangeAt Go.RowKit
set_option linter.unusedVariables false

theorem DrawFitLine_any (w : World) (a : Option Addr) (n c : Nat) (zs : List Int) (h : IsRow .u8 w a n c zs) :
    Calls Try.prog 111 #[.slice a n c] w fun e w' => ∃ (A : Option Addr) (c : Nat) (L : List It) (x y d : Int), e = .returned (.tuple #[.slice A L.length c, .int .i64 x, .int .i64 y, .int .i64 d]) ∧ TO w' 76 w.heap.size A c L ∧ L.length ≤ 23 ∧ (-1 ≤ x ∧ x ≤ 23) ∧ (-1 ≤ y ∧ y ≤ 23) ∧ (0 ≤ d ∧ d ≤ 10001) ∧ Below w.heap.size w w' := by
  go_enter Try.func111, Try.ntmps111
  go_wp2_with fail
  (with_reducible refine (newReader_any _ _ _ _ _ h).mono ?_)
  rintro e u0 ⟨rfl, hrd, hb⟩
  have hgl : w.heap.size < u0.heap.size := hrd.lt
  go_wp2_with fail
  (with_reducible refine (someLine_any _ _ _ _ hrd (by omega) (by omega)).mono ?_)
  rintro e u1 ⟨A, c1, L, x, y, rfl, hol, hll, hx, hy, hrd1, hon1⟩
  have HO1 := hide (on_call hon1 (on_below hb (on_refl w (some w.heap.size))))
  have hz1 := hon1.size
  clear hon1 hb
  go_wp2_with fail
  (with_reducible refine (someWidth_any _ _ _ _ hrd1 (by omega)).mono ?_)
  rintro e u2 ⟨d, hd, rfl, hrd2, hon2⟩
  have hol2 := hol.readI hon2 (by omega)
  have O2 := on_call hon2 HO1.out
  go_wp2
  refine bodyPost_ret (v := .tuple #[.slice A L.length c1, .int .i64 x, .int .i64 y, .int .i64 d]) (by simp [results, Try.results111, go_sem]) rfl ⟨A, c1, L, x, y, d, rfl, hol2.more (by omega), hll, hx, hy, hd, on_new O2 (Nat.le_refl _)⟩
end Go.Proofs.Ytafddofajfcffaa

/- Drawn paragraphs, widths and tolerances. -/
namespace Go.Proofs.Ytafddofajfcffaa
open Go.ChangeShapes Go.WideShapes Go.ChangeAt Go.RowKit
set_option linter.unusedVariables false

theorem DrawBestBreaks_any (w : World) (a : Option Addr) (n c : Nat) (zs : List Int) (h : IsRow .u8 w a n c zs) :
    Calls Try.prog 67 #[.slice a n c] w fun e w' => ∃ (A : Option Addr) (c : Nat) (L : List It) (d t : Int), e = .returned (.tuple #[.slice A L.length c, .int .i64 d, .int .i64 t]) ∧ TO w' 76 w.heap.size A c L ∧ L.length ≤ 23 ∧ (0 ≤ d ∧ d ≤ 10001) ∧ (-1 ≤ t ∧ t ≤ 20000) ∧ Below w.heap.size w w' := by
  go_enter Try.func67, Try.ntmps67
  go_wp2_with fail
  (with_reducible refine (newReader_any _ _ _ _ _ h).mono ?_)
  rintro e u0 ⟨rfl, hrd, hb⟩
  have hgl : w.heap.size < u0.heap.size := hrd.lt
  go_wp2_with fail
  (with_reducible refine (anyItems_any _ _ _ _ hrd (by omega) (by omega)).mono ?_)
  rintro e u1 ⟨A, c1, L, rfl, hol, hll, hrd1, hon1⟩
  have HO1 := hide (on_call hon1 (on_below hb (on_refl w (some w.heap.size))))
  have hz1 := hon1.size
  clear hon1 hb
  go_wp2_with fail
  (with_reducible refine (someWidth_any _ _ _ _ hrd1 (by omega)).mono ?_)
  rintro e u2 ⟨d, hd, rfl, hrd2, hon2⟩
  have hol2 := hol.readI hon2 (by omega)
  have HO2 := hide (on_call hon2 HO1.out)
  have hz2 := hon2.size
  clear hon2
  go_wp2_with fail
  (with_reducible refine (someTolerance_any _ _ _ _ hrd2 (by omega) (by omega)).mono ?_)
  rintro e u3 ⟨t, rfl, ht, hrd3, hon3⟩
  have hol3 := hol2.readI hon3 (by omega)
  have O3 := on_call hon3 HO2.out
  go_wp2
  refine bodyPost_ret (v := .tuple #[.slice A L.length c1, .int .i64 d, .int .i64 t]) (by simp [results, Try.results67, go_sem]) rfl ⟨A, c1, L, d, t, rfl, hol3.more (by omega), hll, hd, ht, on_new O3 (Nat.le_refl _)⟩
theorem DrawFirstFit_any (w : World) (a : Option Addr) (n c : Nat) (zs : List Int) (h : IsRow .u8 w a n c zs) :
    Calls Try.prog 66 #[.slice a n c] w fun e w' => ∃ (A : Option Addr) (c : Nat) (L : List It) (d : Int), e = .returned (.tuple #[.slice A L.length c, .int .i64 d]) ∧ TO w' 76 w.heap.size A c L ∧ L.length ≤ 23 ∧ (0 ≤ d ∧ d ≤ 10001) ∧ Below w.heap.size w w' := by
  go_enter Try.func66, Try.ntmps66
  go_wp2_with fail
  (with_reducible refine (newReader_any _ _ _ _ _ h).mono ?_)
  rintro e u0 ⟨rfl, hrd, hb⟩
  have hgl : w.heap.size < u0.heap.size := hrd.lt
  go_wp2_with fail
  (with_reducible refine (anyItems_any _ _ _ _ hrd (by omega) (by omega)).mono ?_)
  rintro e u1 ⟨A, c1, L, rfl, hol, hll, hrd1, hon1⟩
  have HO1 := hide (on_call hon1 (on_below hb (on_refl w (some w.heap.size))))
  have hz1 := hon1.size
  clear hon1 hb
  go_wp2_with fail
  (with_reducible refine (someWidth_any _ _ _ _ hrd1 (by omega)).mono ?_)
  rintro e u2 ⟨d, hd, rfl, hrd2, hon2⟩
  have hol2 := hol.readI hon2 (by omega)
  have O2 := on_call hon2 HO1.out
  go_wp2
  refine bodyPost_ret (v := .tuple #[.slice A L.length c1, .int .i64 d]) (by simp [results, Try.results66, go_sem]) rfl ⟨A, c1, L, d, rfl, hol2.more (by omega), hll, hd, on_new O2 (Nat.le_refl _)⟩
end Go.Proofs.Ytafddofajfcffaa
