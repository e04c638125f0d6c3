/- Drawn items of a paragraph. -/
import Derived.Test.YtmncdpiojhgcdaaRead
import Derived.Test.YtmncdpiojhgcdaaSc
import Derived.Test.YtmncdpiojhgcdaaSb
namespace Go.Proofs.Ytmncdpiojhgcdaa
open Go.ChangeShapes Go.WideShapes Go.ChangeAt Go.RowKit
set_option linter.unusedVariables false
set_option maxRecDepth 4000

theorem RD.belowR {w w' : World} {B B' g N : Nat} (h : RD w B g N) (hb : Below B' w w') (hB : B ≤ B') : RD w' B g N :=
  h.keep (fun _ hq => hb.cell (Nat.lt_of_lt_of_le hq hB)) (fun _ hq => hb.frozen (Nat.lt_of_lt_of_le hq hB)) hb.size
theorem on_belowR {w w' a : World} {B g : Nat} (h : Below B w w') (hB : a.heap.size ≤ B) (h0 : a.grownBy w (some g)) : a.grownBy w' (some g) :=
  ⟨h.os.trans h0.os, h.tape.trans h0.tape, h.output.trans h0.output, Nat.le_trans h0.size h.size, fun i hi hne => (h.block i (by omega)).trans (h0.block i hi hne)⟩
theorem TO.readI {w w' : World} {B g c : Nat} {e : TypeId} {A : Option Addr} {L : List It} (h : TO w e B A c L) (hg : w.grownBy w' (some g)) (hlt : g < B) : TO w' e B A c L :=
  h.kept hg (fun k hk e => by
    have := (h.own_lt k hk).1
    injection e with e
    omega)
theorem ones6 (x : It) : ∀ u ∈ Rec.cells x, u.oneCell' = true := by
  intro u hu
  simp [Rec.cells] at hu
  rcases hu with rfl | rfl | rfl | rfl | rfl | rfl <;> rfl
theorem cells6 {W : World} {n : Nat} {t : TypeId} (a b c d e : Int) (f : Bool) (h : W.heap.size = n) : ∀ j, j < Rec.size It → (W.alloc (.cells #[.int .i64 a, .int .i64 b, .int .i64 c, .int .i64 d, .int .i64 e, .bool f] t)).cell? ⟨n, j, none⟩ = (Rec.cells (⟨a, b, c, d, e, f⟩ : It))[j]? := by
  subst h
  intro j hj
  have hj' : j < 6 := hj
  rcases (by omega : j = 0 ∨ j = 1 ∨ j = 2 ∨ j = 3 ∨ j = 4 ∨ j = 5) with rfl | rfl | rfl | rfl | rfl | rfl <;> simp [go_sem, Rec.cells]
/-- append of two records. -/
theorem wpList_append_rec2 {P : Program} {ops : Array Oper} {rest : List Oper} {o : Oper} {a : Act} {Q : Exit → Act → World → Prop} {w : World} (hgd : o.guard = none) (s x : Operand) (t : TypeId)
    (ho : o.op = .call { callee := .builtin .append, args := #[s, x], argTypes := #[t, t] })
    (e : TypeId) (i : TypeInfo) (zv : Value) (ht : P.underlying t = some (.slice e)) (hi : P.info? e = some i) (hz : i.zero = some zv) (hsize : i.size = 6) (hby : i.bytes = 48) (hzs : zv.cells.size = 6)
    (B : Nat) (A : Option Addr) (c n : Nat) (L : List It) (hs : a.eval s = .slice A n c) (hn : n = L.length) (hown : TO w e B A c L)
    (b : Nat) (r r' : It) (hx : a.eval x = .slice (some ⟨b, 0, none⟩) 2 2) (hc : ∀ j, j < 12 → w.cell? ⟨b, j, none⟩ = (Rec.cells r ++ Rec.cells r')[j]?) (hlen : n ≤ 1000000000000) (hB : B ≤ w.heap.size)
    (h : ∀ A' c' w', TO w' e B A' c' (L ++ [r, r']) → Below B w w' → w.grownBy w' (Value.slice A n c).ownBlock → wpList P ops Q rest (a.put o.dst (.slice A' (n + 2) c')) w') : wpList P ops Q (o :: rest) a w := by
  subst hn
  refine wpList_append_own w hgd s x t ho B e i zv 6 48 ht hi hz hsize hby hzs (by decide) _ L.length (L.flatMap Rec.cells) hs hown ⟨b, 0, none⟩ 2 2 (Rec.cells r ++ Rec.cells r') hx rfl ?_ ?_ (by unfold maxLen; omega) (by omega) hB ?_
  · intro j u hj
    have hj2 : j < 12 := (List.getElem?_eq_some_iff.1 hj).1
    rw [← hj, ← hc j hj2]
    congr 1
    by_cases h0 : j = 0 <;> simp [Addr.add, h0]
  · intro u hu
    rcases List.mem_append.1 hu with hu | hu
    · exact ones6 r u hu
    · exact ones6 r' u hu
  · intro v' w' hown' hgr _
    obtain ⟨A', c', rfl, hl, hol⟩ := TO.of_own (L := L ++ [r, r']) hown' (by simp)
    exact h A' c' w' hol ((Below.refl _ _).grown hgr hB (fun k hk => (hown.own_lt k hk).1)) hgr

set_option maxHeartbeats 4000000 in
theorem randomItems_any (w : World) (B g N : Nat) (h : RD w B g N) (hN : N ≤ 100000000) (hB : B ≤ w.heap.size) :
    Calls Try.prog 124 #[.pointer (some ⟨g, 0, none⟩)] w fun e w' => ∃ (A : Option Addr) (c : Nat) (L : List It), e = .returned (.slice A L.length c) ∧ TO w' 45 w.heap.size A c L ∧ (1 ≤ L.length ∧ L.length ≤ 23) ∧ RD w' B g (N + 70) ∧ w.grownBy w' (some g) := by
  obtain ⟨i0, hi0, jz0, jz1, jz2⟩ := info_parts it_info
  have hg := h.lt
  go_enter Try.func124, Try.ntmps124
  have H0 : Hid (TO (w.alloc (.cells #[] 45)) 45 w.heap.size (some ⟨w.heap.size, 0, none⟩) 0 ([] : List It)) := hide (TO.lit0 (Nat.le_refl _))
  go_wp2_with fail
  refine (pick_any _ B g _ _ (RD.alloc h _) (by omega) (by omega) (by omega)).mono ?_
  rintro e u0 ⟨r, hr0, hr1, rfl, hrd, hon⟩
  have H1 := hide (H0.out.readI hon (by omega))
  have O1 := hide (on_call hon (on_alloc (on_refl w (some g)) _))
  have hz := hon.size
  simp at hz
  clear hon h H0
  go_wp2
  go_loopw [3, 4] (fun v i u => ∃ (q m : Nat) (A : Option Addr) (cc : Nat) (L : List It), q + 2 * m ≤ 20 ∧ i = .int .i64 m ∧ v = .slice A q cc ∧ q = L.length ∧ TO u 45 w.heap.size A cc L ∧ RD u B g (N + 1 + 3 * q) ∧ w.grownBy u (some g)) (fun _ i _ => (intOf i).toNat)
  case atStart => exact ⟨0, r.toNat, _, _, [], by omega, by go_num, rfl, rfl, H1.out, hrd, O1.out⟩
  case round =>
    clear hrd
    obtain ⟨q, m, A, cc, L, hqm, rfl, rfl, hpl, hol, hrd, hon⟩ := hrel
    have HPL := hide hpl
    clear hpl
    have hzr := hon.size
    rcases Nat.eq_zero_or_pos m with hm | hm
    · subst hm
      go_wp2_with fail
      refine (pick_any _ B g _ _ hrd (by omega) (by omega) (by omega)).mono ?_
      rintro e u1 ⟨r, hr0, hr1, rfl, hrd1, hon1⟩
      have hol1 := hol.readI hon1 (by omega)
      have O2 := hide (on_call hon1 hon)
      have hz1 := hon1.size
      clear hol hon hon1 hrd
      rcases (by omega : r = 0 ∨ 0 < r) with rfl | hr
      · go_wp2_with (at_builtin; refine wpList_append_rec rfl (.tmp 71) (.tmp 73) _ rfl 45 i0 _ 48 Try.underlying25 hi0 jz0 jz1 jz2 rfl (by decide) w.heap.size A cc q L rfl (HPL.out) (hol1.alloc _) u1.heap.size ⟨3, 0, 0, 0, -1000, false⟩ rfl (ones6 _) (cells6 _ _ _ _ _ _ rfl) (by omega) (by simp; omega) ?_; intro A' c' w' hol' hb' hg')
        go_ret
        exact ⟨A', c', _, by rw [List.length_append, ← HPL.out]; rfl, hol', by rw [List.length_append, ← HPL.out]; simp; omega, ((hrd1.alloc (.cells #[.int .i64 3, .int .i64 0, .int .i64 0, .int .i64 0, .int .i64 (-1000), .bool false] 45)).belowR hb' hB).more (by omega) (Nat.le_refl _) (by have := hb'.size; simp at this; omega), on_belowR hb' (Nat.le_refl _) (on_alloc O2.out _)⟩
      · go_wp2_with (first | (at_builtin; refine wpList_append_rec2 rfl (.tmp 65) (.tmp 69) _ rfl 45 i0 _ Try.underlying25 hi0 jz0 jz1 jz2 rfl w.heap.size A cc q L rfl (HPL.out) (hol1.alloc _) u1.heap.size ⟨3, 0, 0, 0, 1000, false⟩ ⟨2, 0, 1000, 0, 0, false⟩ rfl (by intro j hj; rcases (by omega : j = 0 ∨ j = 1 ∨ j = 2 ∨ j = 3 ∨ j = 4 ∨ j = 5 ∨ j = 6 ∨ j = 7 ∨ j = 8 ∨ j = 9 ∨ j = 10 ∨ j = 11) with rfl | rfl | rfl | rfl | rfl | rfl | rfl | rfl | rfl | rfl | rfl | rfl <;> simp [go_sem, Rec.cells]) (by omega) (by simp; omega) ?_; intro A' c' w' hol' hb' hg') | (have hzz := hb'.size; simp at hzz; at_builtin; refine wpList_append_rec rfl (.tmp 71) (.tmp 73) _ rfl 45 i0 _ 48 Try.underlying25 hi0 jz0 jz1 jz2 rfl (by decide) w.heap.size A' c' (q + 2) _ rfl (by rw [List.length_append, ← HPL.out]; rfl) (hol'.alloc _) w'.heap.size ⟨3, 0, 0, 0, -1000, false⟩ rfl (ones6 _) (cells6 _ _ _ _ _ _ rfl) (by omega) (by simp; omega) ?_; intro A2 c2 w2 hol2 hb2 hg2))
        go_ret
        exact ⟨A2, c2, _, by rw [List.length_append, List.length_append, ← HPL.out]; rfl, hol2, by rw [List.length_append, List.length_append, ← HPL.out]; simp; omega, ((((hrd1.alloc (.cells #[.int .i64 3, .int .i64 0, .int .i64 0, .int .i64 0, .int .i64 1000, .bool false, .int .i64 2, .int .i64 0, .int .i64 1000, .int .i64 0, .int .i64 0, .bool false] 45)).belowR hb' hB).alloc (.cells #[.int .i64 3, .int .i64 0, .int .i64 0, .int .i64 0, .int .i64 (-1000), .bool false] 45)).belowR hb2 hB).more (by omega) (Nat.le_refl _) (by have := hb2.size; simp at this; have := hb'.size; simp at this; omega), on_belowR hb2 (Nat.le_refl _) (on_alloc (on_belowR hb' (Nat.le_refl _) (on_alloc O2.out _)) _)⟩
    · go_wp2_with fail
      refine (pick_any _ B g _ _ hrd (by omega) (by omega) (by omega)).mono ?_
      rintro e u1 ⟨r, hr0, hr1, rfl, hrd1, hon1⟩
      have hol1 := hol.readI hon1 (by omega)
      have O2 := hide (on_call hon1 hon)
      have hz1 := hon1.size
      clear hol hon hon1 hrd
      go_wp2_with (first | (at_builtin; refine wpList_append_rec rfl (.tmp 13) (.tmp 19) _ rfl 45 i0 _ 48 Try.underlying25 hi0 jz0 jz1 jz2 rfl (by decide) w.heap.size A cc q L rfl (HPL.out) (hol1.alloc _) u1.heap.size ⟨1, 2 + r, 0, 0, 0, false⟩ rfl (ones6 _) (cells6 _ _ _ _ _ _ rfl) (by omega) (by simp; omega) ?_; intro A' c' w' hol' hb' hg') | fail)
      have HPL2 : Hid (q + 1 = (L ++ [(⟨1, 2 + r, 0, 0, 0, false⟩ : It)]).length) := hide (by rw [List.length_append, ← HPL.out]; rfl)
      have hzq := hb'.size
      simp at hzq
      have hrd2 := (hrd1.alloc (.cells #[.int .i64 1, .int .i64 (2 + r), .int .i64 0, .int .i64 0, .int .i64 0, .bool false] 45)).belowR hb' hB
      have O3 := hide (on_belowR hb' (Nat.le_refl _) (on_alloc O2.out (.cells #[.int .i64 1, .int .i64 (2 + r), .int .i64 0, .int .i64 0, .int .i64 0, .bool false] 45)))
      obtain ⟨LL, hLL⟩ : ∃ LL, LL = L ++ [(⟨1, 2 + r, 0, 0, 0, false⟩ : It)] := ⟨_, rfl⟩
      rw [← hLL] at hol' HPL2
      clear hb' hg' hol1 hrd1 hLL O2
      refine (pick_any _ B g _ _ hrd2 (by omega) (by omega) (by omega)).mono ?_
      rintro e u2 ⟨s, hs0, hs1, rfl, hrd3, hon3⟩
      have hol3 := hol'.readI hon3 (by omega)
      have O4 := hide (on_call hon3 O3.out)
      have hz3 := hon3.size
      have hg3 := hrd3.lt
      clear hol' hon3 hrd2
      rcases (by omega : s = 0 ∨ s = 1 ∨ 2 ≤ s) with rfl | rfl | hs
      · go_wp2_with fail
        refine (pick_any _ B g _ _ hrd3 (by omega) (by omega) (by omega)).mono ?_
        rintro e u3 ⟨x, hx0, hx1, rfl, hrd4, hon4⟩
        have hol4 := hol3.readI hon4 (by omega)
        have O5 := hide (on_call hon4 O4.out)
        have hz4 := hon4.size
        have hg4 := hrd4.lt
        clear hol3 hon4 hrd3
        go_wp2_with fail
        refine (one_any _ B g _ _ _ (fun _ => True) (hrd4.alloc _) (by omega) (by exact heap_alloc_new _ _) (by omega) (by rfl) (by decide) (by simp)).mono ?_
        rintro e u4 ⟨y, _, rfl, hrd5, hon5⟩
        have hol5 := (hol4.alloc _).readI hon5 (by omega)
        have O6 := hide (on_call hon5 (on_alloc O5.out _))
        have hz5 := hon5.size
        simp at hz5
        clear hol4 hon5 hrd4
        go_wp2_with fail
        refine (pick_any _ B g _ _ hrd5 (by omega) (by omega) (by omega)).mono ?_
        rintro e u5 ⟨z, hz0, hz1', rfl, hrd6, hon6⟩
        have hol6 := hol5.readI hon6 (by omega)
        have O7 := hide (on_call hon6 O6.out)
        have hz6 := hon6.size
        clear hol5 hon6 hrd5
        go_wp2_with (at_builtin; refine wpList_append_rec rfl (.tmp 40) (.tmp 51) _ rfl 45 i0 _ 48 Try.underlying25 hi0 jz0 jz1 jz2 rfl (by decide) w.heap.size A' c' (q + 1) LL rfl (HPL2.out) (hol6.alloc _) u5.heap.size ⟨3, x, 0, 0, y, z == 0⟩ rfl (ones6 _) (cells6 _ _ _ _ _ _ rfl) (by omega) (by simp; omega) ?_; intro A' c' w' hol' hb' hg')
        go_roundw
        case rel => exact ⟨q + 2, m - 1, _, _, _, by omega, by go_num, rfl, by rw [List.length_append, ← HPL2.out]; rfl, hol', ((hrd6.alloc _).belowR hb' hB).more (by omega) (Nat.le_refl _) ((hrd6.alloc _).belowR hb' hB).2.1, on_belowR hb' (Nat.le_refl _) (on_alloc O7.out _)⟩
        case measure => simp [intOf]; omega
      · go_wp2_with fail
        refine (one_any _ B g _ _ _ (fun _ => True) (hrd3.alloc _) (by omega) (by exact heap_alloc_new _ _) (by omega) (by rfl) (by decide) (by simp)).mono ?_
        rintro e u4 ⟨y, _, rfl, hrd5, hon5⟩
        have hol5 := (hol3.alloc _).readI hon5 (by omega)
        have O6 := hide (on_call hon5 (on_alloc O4.out _))
        have hz5 := hon5.size
        simp at hz5
        clear hol3 hon5 hrd3
        go_wp2_with (at_builtin; refine wpList_append_rec rfl (.tmp 55) (.tmp 60) _ rfl 45 i0 _ 48 Try.underlying25 hi0 jz0 jz1 jz2 rfl (by decide) w.heap.size A' c' (q + 1) LL rfl (HPL2.out) (hol5.alloc _) u4.heap.size ⟨3, 0, 0, 0, y, false⟩ rfl (ones6 _) (cells6 _ _ _ _ _ _ rfl) (by omega) (by simp; omega) ?_; intro A' c' w' hol' hb' hg')
        go_roundw
        case rel => exact ⟨q + 2, m - 1, _, _, _, by omega, by go_num, rfl, by rw [List.length_append, ← HPL2.out]; rfl, hol', ((hrd5.alloc _).belowR hb' hB).more (by omega) (Nat.le_refl _) ((hrd5.alloc _).belowR hb' hB).2.1, on_belowR hb' (Nat.le_refl _) (on_alloc O6.out _)⟩
        case measure => simp [intOf]; omega
      · have gs0 : (s == 0) = false := beq_eq_false_iff_ne.2 (by omega)
        have gs1 : (s == 1) = false := beq_eq_false_iff_ne.2 (by omega)
        go_wp2_with fail
        refine (pick_any _ B g _ _ hrd3 (by omega) (by omega) (by omega)).mono ?_
        rintro e u3 ⟨x, hx0, hx1, rfl, hrd4, hon4⟩
        have hol4 := hol3.readI hon4 (by omega)
        have O5 := hide (on_call hon4 O4.out)
        have hz4 := hon4.size
        clear hol3 hon4 hrd3
        go_wp2_with fail
        refine (pick_any _ B g _ _ hrd4 (by omega) (by omega) (by omega)).mono ?_
        rintro e u4 ⟨y, hy0, hy1, rfl, hrd5, hon5⟩
        have hol5 := hol4.readI hon5 (by omega)
        have O6 := hide (on_call hon5 O5.out)
        have hz5 := hon5.size
        clear hol4 hon5 hrd4
        go_wp2_with fail
        refine (pick_any _ B g _ _ hrd5 (by omega) (by omega) (by omega)).mono ?_
        rintro e u5 ⟨z, hz0, hz1', rfl, hrd6, hon6⟩
        have hol6 := hol5.readI hon6 (by omega)
        have O7 := hide (on_call hon6 O6.out)
        have hz6 := hon6.size
        clear hol5 hon6 hrd5
        go_wp2_with (at_builtin; refine wpList_append_rec rfl (.tmp 26) (.tmp 36) _ rfl 45 i0 _ 48 Try.underlying25 hi0 jz0 jz1 jz2 rfl (by decide) w.heap.size A' c' (q + 1) LL rfl (HPL2.out) (hol6.alloc _) u5.heap.size ⟨2, 2 + x, y, z, 0, false⟩ rfl (ones6 _) (cells6 _ _ _ _ _ _ rfl) (by omega) (by simp; omega) ?_; intro A' c' w' hol' hb' hg')
        go_roundw
        case rel => exact ⟨q + 2, m - 1, _, _, _, by omega, by go_num, rfl, by rw [List.length_append, ← HPL2.out]; rfl, hol', ((hrd6.alloc _).belowR hb' hB).more (by omega) (Nat.le_refl _) ((hrd6.alloc _).belowR hb' hB).2.1, on_belowR hb' (Nat.le_refl _) (on_alloc O7.out _)⟩
        case measure => simp [intOf]; omega

theorem tgI_set {L : List It} {i j : Nat} {x : It} (hj : j < L.length) : tg (L.set i x) j = if i = j then x else tg L j := by
  rw [tg_lt (by simpa using hj), List.getElem_set, tg_lt hj]
theorem flat_set6 {L : List It} {i j : Nat} {x : It} {v : Value} (hi : i < L.length) (hj : j < 6) (hx : Rec.cells x = (Rec.cells (tg L i)).set j v) : (L.flatMap Rec.cells).set (i * 6 + j) v = (L.set i x).flatMap Rec.cells := by
  have hl : (L.flatMap Rec.cells).length = L.length * 6 := flat_len L
  have hl2 : ((L.set i x).flatMap Rec.cells).length = L.length * 6 := by have := flat_len (L.set i x); rw [List.length_set] at this; exact this
  apply List.ext_getElem?
  intro m
  by_cases hm : m < L.length * 6
  · obtain ⟨q, r, hr, rfl⟩ : ∃ q r, r < 6 ∧ m = q * 6 + r := ⟨m / 6, m % 6, Nat.mod_lt _ (by omega), by omega⟩
    have hq : q < L.length := by omega
    have e1 := flat_get (L.set i x) (i := q) (j := r) (by rw [List.length_set]; exact hq) (show r < Rec.size It from hr)
    have e2 := flat_get L (i := q) (j := r) hq (show r < Rec.size It from hr)
    rw [tgI_set hq] at e1
    change (List.flatMap Rec.cells (L.set i x))[q * 6 + r]? = _ at e1
    change (List.flatMap Rec.cells L)[q * 6 + r]? = _ at e2
    rw [e1, List.getElem?_set, hl]
    by_cases e : i = q
    · subst e
      rw [if_pos rfl, hx, List.getElem?_set]
      have hcl : (Rec.cells (tg L i)).length = 6 := Rec.len _
      by_cases e3 : j = r
      · subst e3
        rw [if_pos rfl, if_pos (by omega), if_pos rfl, if_pos (by omega)]
      · rw [if_neg (by omega), if_neg e3, e2]
    · rw [if_neg (by omega), if_neg e, e2]
  · rw [List.getElem?_eq_none (by rw [List.length_set]; omega), List.getElem?_eq_none (by omega)]
theorem TO.set6 {w : World} {e : TypeId} {B g c : Nat} {L : List It} (h : TO w e B (some ⟨g, 0, none⟩) c L) {i j : Nat} {x : It} {v : Value} (hi : i < L.length) (hj : j < 6) (hx : Rec.cells x = (Rec.cells (tg L i)).set j v) : TO (w.setCell ⟨g, i * 6 + j, none⟩ v) e B (some ⟨g, 0, none⟩) c (L.set i x) := by
  have s0 := (World.ownsRow.stored h (i * 6 + j) v).1
  rw [flat_set6 hi hj hx] at s0
  unfold TO
  rw [List.length_set]
  exact s0
theorem flat_take (L : List It) (k : Nat) : (L.take k).flatMap Rec.cells = (L.flatMap Rec.cells).take (k * 6) := by
  induction L generalizing k with
  | nil => simp
  | cons x L ih =>
    cases k with
    | zero => simp
    | succ k =>
      have hl : (Rec.cells x).length = 6 := Rec.len x
      have e : List.take ((k + 1) * 6) (Rec.cells x) = Rec.cells x := List.take_of_length_le (by omega)
      rw [List.take_succ_cons, List.flatMap_cons, List.flatMap_cons, ih, List.take_append, e, hl, show (k + 1) * 6 - 6 = k * 6 by omega]
theorem TO.take {w : World} {e : TypeId} {B c : Nat} {A : Option Addr} {L : List It} (h : TO w e B A c L) {k : Nat} (hk : k ≤ L.length) (h0 : 0 < L.length) : TO w e B A c (L.take k) := by
  have hl : (L.take k).length = k := by simp; omega
  unfold TO at h ⊢
  rw [hl]
  refine ⟨by rw [flat_len, hl], ?_⟩
  rcases h.2 with ⟨_, h1⟩ | ⟨g, cap, cur, h1, h2, h3, h4, h5, h6, h7⟩
  · omega
  · injection h1 with h1 _ h8
    refine .inr ⟨g, cap, cur, by rw [h1, h8], h2, h3, by omega, h5, h6, ?_⟩
    rw [flat_take, ← h7, List.take_take]
    congr 1
    show k * 6 = min (k * 6) (L.length * 6)
    omega

set_option maxHeartbeats 4000000 in
theorem anyItems_any (w : World) (B g N : Nat) (h : RD w B g N) (hN : N ≤ 10000000) (hB : B ≤ w.heap.size) :
    Calls Try.prog 74 #[.pointer (some ⟨g, 0, none⟩)] w fun e w' => ∃ (A : Option Addr) (c : Nat) (L : List It), e = .returned (.slice A L.length c) ∧ TO w' 45 w.heap.size A c L ∧ L.length ≤ 23 ∧ RD w' B g (N + 80) ∧ w.grownBy w' (some g) := by
  have hg := h.lt
  go_enter Try.func74, Try.ntmps74
  go_wp2_with fail
  refine (randomItems_any _ B g _ h (by omega) hB).mono ?_
  rintro e u0 ⟨A, c, L, rfl, hol, ⟨hl1, hl2⟩, hrd, hon⟩
  have hz0 := hon.size
  go_wp2_with fail
  refine (pick_any _ B g _ _ hrd (by omega) (by omega) (by omega)).mono ?_
  rintro e u1 ⟨k, hk0, hk1, rfl, hrd1, hon1⟩
  obtain ⟨k, rfl⟩ := Int.eq_ofNat_of_zero_le hk0
  have hkl : k < L.length := by omega
  have hol1 := hol.readI hon1 (by have := h.1; omega)
  have O1 := hide (on_call hon1 hon)
  have hz1 := hon1.size
  clear hol hon1 hrd hk0 hk1
  go_wp2_with fail
  refine (pick_any _ B g _ _ hrd1 (by omega) (by omega) (by omega)).mono ?_
  rintro e u2 ⟨r, hr0, hr1, rfl, hrd2, hon2⟩
  have hol2 := hol1.readI hon2 (by have := h.1; omega)
  have O2 := hide (on_call hon2 O1.out)
  have hz2 := hon2.size
  have hgB := h.1
  have hg2 := hrd2.lt
  clear hol1 hon2 hrd1
  rcases (by omega : r = 0 ∨ r = 1 ∨ r = 2 ∨ r = 3 ∨ 4 ≤ r) with rfl | rfl | rfl | rfl | hr
  iterate 3
    · go_wp2_with fail
      refine (one_any _ B g _ _ _ (fun _ => True) (hrd2.alloc _) (by omega) (by exact heap_alloc_new _ _) (by omega) (by rfl) (by decide) (by simp)).mono ?_
      rintro e u3 ⟨z, _, rfl, hrd3, hon3⟩
      have hol3 := (hol2.alloc _).readI hon3 (by omega)
      have O3 := hide (on_call hon3 (on_alloc O2.out _))
      have hz3 := hon3.size
      simp at hz3
      obtain ⟨g', rfl, hBg, hgz, hfz⟩ := hol3.frozen (by omega)
      obtain ⟨b, o, he, _, c0, c1, c2, c3, c4, c5⟩ := hol3.reads.at6 (i := k) hkl
      injection he with he
      cases he
      rw [Nat.zero_add] at c0 c1 c2 c3 c4 c5
      have f0 := hfz (k * 6)
      have f1 := hfz (k * 6 + 1)
      have f4 := hfz (k * 6 + 4)
      have S0 := hide (hol3.set6 (i := k) (j := 0) (x := ⟨z, (tg L k).w, (tg L k).st, (tg L k).sh, (tg L k).p, (tg L k).f⟩) (v := .int .i64 z) hkl (by omega) rfl)
      have S1 := hide (hol3.set6 (i := k) (j := 1) (x := ⟨(tg L k).k, z, (tg L k).st, (tg L k).sh, (tg L k).p, (tg L k).f⟩) (v := .int .i64 z) hkl (by omega) rfl)
      have S4 := hide (hol3.set6 (i := k) (j := 4) (x := ⟨(tg L k).k, (tg L k).w, (tg L k).st, (tg L k).sh, z, (tg L k).f⟩) (v := .int .i64 z) hkl (by omega) rfl)
      clear hfz hol3 hon3 hol2
      go_wp2
      go_ret
      first
      | exact ⟨_, c, _, by rw [List.length_set]; rfl, S0.out, by rw [List.length_set]; omega, (hrd3.set_ (Nat.le_trans hB hBg) _).more (by omega) (Nat.le_refl _) (by simp; omega), on_set O3.out (.inr hBg) _⟩
      | exact ⟨_, c, _, by rw [List.length_set]; rfl, S1.out, by rw [List.length_set]; omega, (hrd3.set_ (Nat.le_trans hB hBg) _).more (by omega) (Nat.le_refl _) (by simp; omega), on_set O3.out (.inr hBg) _⟩
      | exact ⟨_, c, _, by rw [List.length_set]; rfl, S4.out, by rw [List.length_set]; omega, (hrd3.set_ (Nat.le_trans hB hBg) _).more (by omega) (Nat.le_refl _) (by simp; omega), on_set O3.out (.inr hBg) _⟩
  · obtain ⟨m, hm⟩ : ∃ m, L.length = m + 1 := ⟨L.length - 1, by omega⟩
    have em : (L.length : Int) - 1 = (m : Int) := by omega
    obtain ⟨g', rfl, hBg, hgz, hlc, hcm⟩ := hol2.form (by omega)
    have S := hide (hol2.take (k := m) (by omega) (by omega))
    have hmc : m ≤ c := by omega
    have hc0 : ¬ c = 0 := by omega
    unfold maxLen at hcm
    have HM := hide hm
    clear hol2 hm
    go_wp2
    go_ret
    exact ⟨_, c, _, by rw [List.length_take, HM.out, Nat.min_eq_left (by omega)]; rfl, S.out, by rw [List.length_take]; omega, hrd2.more (by omega) (Nat.le_refl _) hrd2.2.1, O2.out⟩
  · have g0 : (r == 0) = false := beq_eq_false_iff_ne.2 (by omega)
    have g1 : (r == 1) = false := beq_eq_false_iff_ne.2 (by omega)
    have g2 : (r == 2) = false := beq_eq_false_iff_ne.2 (by omega)
    have g3 : (r == 3) = false := beq_eq_false_iff_ne.2 (by omega)
    go_wp2
    go_ret
    exact ⟨A, c, L, rfl, hol2, hl2, hrd2.more (by omega) (Nat.le_refl _) hrd2.2.1, O2.out⟩
end Go.Proofs.Ytmncdpiojhgcdaa
