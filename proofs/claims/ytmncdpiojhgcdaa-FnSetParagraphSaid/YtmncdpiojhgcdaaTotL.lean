/- The sum of the costs of lines. -/
import Derived.Test.YtmncdpiojhgcdaaSa
namespace Go.Proofs.Ytmncdpiojhgcdaa
open Go.ChangeShapes Go.WideShapes Go.ChangeAt Go.RowKit Go.Shelf
set_option linter.unusedVariables false
set_option linter.unusedSimpArgs false
attribute [local go_sem] Oper.semAt_some

set_option maxRecDepth 100000 in
set_option maxHeartbeats 4000000 in
theorem total_lines (w : World) (A : Option Addr) (c : Nat) (E : List Int) (hE : IL w A E.length E) (hl : E.length ≤ 1048576) (s : Int) (C : Nat → Int → Int → Int × Bool) (q1 q2 q3 : Value) (hM : ∀ j p q, -8000000000 ≤ (C j p q).1 ∧ (C j p q).1 ≤ 8000000000)
    (HC : ∀ (u : World), Below w.heap.size w u → ∀ (i : Nat) (x : Fin E.length), Calls Try.prog 130 #[.int .i64 i, .int .i64 (frm s E x.val), .int .i64 (ng E x.val), q1, q2, q3] u fun e u' => e = .returned (.tuple #[.int .i64 (C i (frm s E x.val) (ng E x.val)).1, .bool (C i (frm s E x.val) (ng E x.val)).2]) ∧ Below u.heap.size u u') :
    Calls Try.prog 129 #[.int .i64 s, .slice A E.length c, .func (.func 130) #[] #[q1, q2, q3]] w fun e w' => e = .returned (.tuple #[.int .i64 (toO s E C).1, .bool (toO s E C).2]) ∧ Below w.heap.size w w' := by
  have HHC := hide HC
  clear HC
  refine (callsIn_wide (n := 5)).1 ?_
  refine callsIn_of_wp_marks Try.func129 rfl trivial ?_ rfl
  simp only [Try.ntmps129, List.size_toArray, List.length_cons, List.length_nil, Nat.reduceAdd, Nat.reduceSub, Array.replicate_succ, Array.replicate_zero, List.push_toArray, List.append_toArray, List.nil_append, List.cons_append]
  gi_wp2_with (refine ⟨trivial, ?_⟩; gi_at_call 138; refine (callsIn_wide.2 (piecesOf_i s A E.length c _)).mono ?_; rintro e w' ⟨rfl, rfl⟩)
  have c5 : (((((((w.alloc (.cells #[.func (.func 130) #[] #[q1, q2, q3]] 98)).alloc (.cells #[.int .i64 0] 3)).alloc (.cells #[.bool false] 4)).alloc (.cells #[.int .i64 0] 3)).alloc (.cells #[.int .i64 0] 3)).alloc (.cells #[.int .i64 s] 3)).alloc (.cells #[.slice A E.length c] 30)).cell? ⟨w.heap.size, 0, none⟩ = some (.func (.func 130) #[] #[q1, q2, q3]) := by simp [go_sem]
  have c6 : (((((((w.alloc (.cells #[.func (.func 130) #[] #[q1, q2, q3]] 98)).alloc (.cells #[.int .i64 0] 3)).alloc (.cells #[.bool false] 4)).alloc (.cells #[.int .i64 0] 3)).alloc (.cells #[.int .i64 0] 3)).alloc (.cells #[.int .i64 s] 3)).alloc (.cells #[.slice A E.length c] 30)).cell? ⟨w.heap.size + 1, 0, none⟩ = some (.int .i64 0) := by simp [go_sem]
  have f6 : (((((((w.alloc (.cells #[.func (.func 130) #[] #[q1, q2, q3]] 98)).alloc (.cells #[.int .i64 0] 3)).alloc (.cells #[.bool false] 4)).alloc (.cells #[.int .i64 0] 3)).alloc (.cells #[.int .i64 0] 3)).alloc (.cells #[.int .i64 s] 3)).alloc (.cells #[.slice A E.length c] 30)).frozen? ⟨w.heap.size + 1, 0, none⟩ = false := by simp [go_sem]
  have c7 : (((((((w.alloc (.cells #[.func (.func 130) #[] #[q1, q2, q3]] 98)).alloc (.cells #[.int .i64 0] 3)).alloc (.cells #[.bool false] 4)).alloc (.cells #[.int .i64 0] 3)).alloc (.cells #[.int .i64 0] 3)).alloc (.cells #[.int .i64 s] 3)).alloc (.cells #[.slice A E.length c] 30)).cell? ⟨w.heap.size + 1 + 1, 0, none⟩ = some (.bool false) := by simp [go_sem]
  have f7 : (((((((w.alloc (.cells #[.func (.func 130) #[] #[q1, q2, q3]] 98)).alloc (.cells #[.int .i64 0] 3)).alloc (.cells #[.bool false] 4)).alloc (.cells #[.int .i64 0] 3)).alloc (.cells #[.int .i64 0] 3)).alloc (.cells #[.int .i64 s] 3)).alloc (.cells #[.slice A E.length c] 30)).frozen? ⟨w.heap.size + 1 + 1, 0, none⟩ = false := by simp [go_sem]
  have c8 : (((((((w.alloc (.cells #[.func (.func 130) #[] #[q1, q2, q3]] 98)).alloc (.cells #[.int .i64 0] 3)).alloc (.cells #[.bool false] 4)).alloc (.cells #[.int .i64 0] 3)).alloc (.cells #[.int .i64 0] 3)).alloc (.cells #[.int .i64 s] 3)).alloc (.cells #[.slice A E.length c] 30)).cell? ⟨w.heap.size + 1 + 1 + 1, 0, none⟩ = some (.int .i64 0) := by simp [go_sem]
  have f8 : (((((((w.alloc (.cells #[.func (.func 130) #[] #[q1, q2, q3]] 98)).alloc (.cells #[.int .i64 0] 3)).alloc (.cells #[.bool false] 4)).alloc (.cells #[.int .i64 0] 3)).alloc (.cells #[.int .i64 0] 3)).alloc (.cells #[.int .i64 s] 3)).alloc (.cells #[.slice A E.length c] 30)).frozen? ⟨w.heap.size + 1 + 1 + 1, 0, none⟩ = false := by simp [go_sem]
  have c9 : (((((((w.alloc (.cells #[.func (.func 130) #[] #[q1, q2, q3]] 98)).alloc (.cells #[.int .i64 0] 3)).alloc (.cells #[.bool false] 4)).alloc (.cells #[.int .i64 0] 3)).alloc (.cells #[.int .i64 0] 3)).alloc (.cells #[.int .i64 s] 3)).alloc (.cells #[.slice A E.length c] 30)).cell? ⟨w.heap.size + 1 + 1 + 1 + 1, 0, none⟩ = some (.int .i64 0) := by simp [go_sem]
  have f9 : (((((((w.alloc (.cells #[.func (.func 130) #[] #[q1, q2, q3]] 98)).alloc (.cells #[.int .i64 0] 3)).alloc (.cells #[.bool false] 4)).alloc (.cells #[.int .i64 0] 3)).alloc (.cells #[.int .i64 0] 3)).alloc (.cells #[.int .i64 s] 3)).alloc (.cells #[.slice A E.length c] 30)).frozen? ⟨w.heap.size + 1 + 1 + 1 + 1, 0, none⟩ = false := by simp [go_sem]
  have c10 : (((((((w.alloc (.cells #[.func (.func 130) #[] #[q1, q2, q3]] 98)).alloc (.cells #[.int .i64 0] 3)).alloc (.cells #[.bool false] 4)).alloc (.cells #[.int .i64 0] 3)).alloc (.cells #[.int .i64 0] 3)).alloc (.cells #[.int .i64 s] 3)).alloc (.cells #[.slice A E.length c] 30)).cell? ⟨w.heap.size + 1 + 1 + 1 + 1 + 1, 0, none⟩ = some (.int .i64 s) := by simp [go_sem]
  have c11 : (((((((w.alloc (.cells #[.func (.func 130) #[] #[q1, q2, q3]] 98)).alloc (.cells #[.int .i64 0] 3)).alloc (.cells #[.bool false] 4)).alloc (.cells #[.int .i64 0] 3)).alloc (.cells #[.int .i64 0] 3)).alloc (.cells #[.int .i64 s] 3)).alloc (.cells #[.slice A E.length c] 30)).cell? ⟨w.heap.size + 1 + 1 + 1 + 1 + 1 + 1, 0, none⟩ = some (.slice A E.length c) := by simp [go_sem]
  have hz0 : (((((((w.alloc (.cells #[.func (.func 130) #[] #[q1, q2, q3]] 98)).alloc (.cells #[.int .i64 0] 3)).alloc (.cells #[.bool false] 4)).alloc (.cells #[.int .i64 0] 3)).alloc (.cells #[.int .i64 0] 3)).alloc (.cells #[.int .i64 s] 3)).alloc (.cells #[.slice A E.length c] 30)).heap.size = w.heap.size + 7 := by simp
  have hB0 : Below w.heap.size w (((((((w.alloc (.cells #[.func (.func 130) #[] #[q1, q2, q3]] 98)).alloc (.cells #[.int .i64 0] 3)).alloc (.cells #[.bool false] 4)).alloc (.cells #[.int .i64 0] 3)).alloc (.cells #[.int .i64 0] 3)).alloc (.cells #[.int .i64 s] 3)).alloc (.cells #[.slice A E.length c] 30)) := by
    repeat' (first | exact bl_refl _ | refine bl_alloc ?_ _)
  obtain ⟨W0, hW0⟩ : ∃ W0, W0 = (((((((w.alloc (.cells #[.func (.func 130) #[] #[q1, q2, q3]] 98)).alloc (.cells #[.int .i64 0] 3)).alloc (.cells #[.bool false] 4)).alloc (.cells #[.int .i64 0] 3)).alloc (.cells #[.int .i64 0] 3)).alloc (.cells #[.int .i64 s] 3)).alloc (.cells #[.slice A E.length c] 30)) := ⟨_, rfl⟩
  rw [← hW0] at c5 c6 f6 c7 f7 c8 f8 c9 f9 c10 c11 hz0 hB0 ⊢
  clear hW0
  have hEE : ∀ j, j < E.length → ∃ b o, A = some ⟨b, o, none⟩ ∧ b < w.heap.size ∧ W0.cell? ⟨b, o + j, none⟩ = some (.int .i64 (ng E j)) := fun j hj => by
    obtain ⟨b, o, e, hb, hc⟩ := hE.at_ hj
    have hbl : b < w.heap.size := World.block_lt_of_cell? w _ hc
    exact ⟨b, o, e, hbl, (hB0.cell (p := ⟨b, o + j, none⟩) hbl).trans hc⟩
  refine wpIn_rangeFunc_ownG (F := Fence.wide) (n := 5) rfl (by decide) (gf := 151) (lb := #[.pointer (some ⟨w.heap.size + 1 + 1 + 1 + 1 + 1, 0, none⟩), .pointer (some ⟨w.heap.size + 1 + 1 + 1 + 1 + 1 + 1, 0, none⟩)]) rfl trivial (enters_of Try.func151 (by kernel_rfl) rfl)
    (pieces_stops Fence.wide 4 trivial rfl (by decide) (w.heap.size + 1 + 1 + 1 + 1 + 1) (w.heap.size + 1 + 1 + 1 + 1 + 1 + 1) w.heap.size s A c E (by omega) W0 (by omega) (by omega) (by omega) c10 c11 hEE) belowK_t (belowK_b (by omega)) (Below.refl _ _) (fun _ => rfl)
    (fun pre W => (okP s E C pre ∧ (W.cell? ⟨w.heap.size, 0, none⟩ = some (.func (.func 130) #[] #[q1, q2, q3]) ∧ (W.cell? ⟨w.heap.size + 1, 0, none⟩ = some (.int .i64 0) ∧ W.frozen? ⟨w.heap.size + 1, 0, none⟩ = false) ∧ (W.cell? ⟨w.heap.size + 1 + 1, 0, none⟩ = some (.bool false) ∧ W.frozen? ⟨w.heap.size + 1 + 1, 0, none⟩ = false) ∧ (W.cell? ⟨w.heap.size + 1 + 1 + 1, 0, none⟩ = some (.int .i64 pre.length) ∧ W.frozen? ⟨w.heap.size + 1 + 1 + 1, 0, none⟩ = false) ∧ (W.cell? ⟨w.heap.size + 1 + 1 + 1 + 1, 0, none⟩ = some (.int .i64 (sumP s E C pre)) ∧ W.frozen? ⟨w.heap.size + 1 + 1 + 1 + 1, 0, none⟩ = false) ∧ w.heap.size + 7 ≤ W.heap.size)) ∧ Below w.heap.size w W)
    (fun c pre W => (c = .ret ∧ ¬ okP s E C pre ∧ W.cell? ⟨w.heap.size + 1, 0, none⟩ = some (.int .i64 0) ∧ W.cell? ⟨w.heap.size + 1 + 1, 0, none⟩ = some (.bool false)) ∧ Below w.heap.size w W)
    (OwnFrom.and (Own.from (fun s' A' B' row hs hg hr => ⟨hs.1, cell_kept hs.2.1 hg hr, ⟨cell_kept hs.2.2.1.1 hg hr, (frozen_kept hs.2.2.1.1 hg hr).trans hs.2.2.1.2⟩, ⟨cell_kept hs.2.2.2.1.1 hg hr, (frozen_kept hs.2.2.2.1.1 hg hr).trans hs.2.2.2.1.2⟩, ⟨cell_kept hs.2.2.2.2.1.1 hg hr, (frozen_kept hs.2.2.2.2.1.1 hg hr).trans hs.2.2.2.2.1.2⟩, ⟨cell_kept hs.2.2.2.2.2.1.1 hg hr, (frozen_kept hs.2.2.2.2.2.1.1 hg hr).trans hs.2.2.2.2.2.1.2⟩, Nat.le_trans hs.2.2.2.2.2.2 hg.size⟩) _) (ownFrom_below (Nat.le_refl _) (by omega)))
    (fun c => OwnFrom.and (Own.from (fun s' A' B' row hs hg hr => ⟨hs.1, hs.2.1, cell_kept hs.2.2.1 hg hr, cell_kept hs.2.2.2 hg hr⟩) _) (ownFrom_below (Nat.le_refl _) (by omega)))
    ⟨⟨okP_nil, c5, ⟨c6, f6⟩, ⟨c7, f7⟩, ⟨c8, f8⟩, ⟨c9, f9⟩, by omega⟩, hB0⟩
    (fun x => { tmps := #[.int .i64 s, .slice A E.length c, .func (.func 130) #[] #[q1, q2, q3], undef, undef, .pointer (some ⟨w.heap.size, 0, none⟩), .pointer (some ⟨w.heap.size + 1, 0, none⟩), .pointer (some ⟨w.heap.size + 1 + 1, 0, none⟩), .pointer (some ⟨w.heap.size + 1 + 1 + 1, 0, none⟩), .pointer (some ⟨w.heap.size + 1 + 1 + 1 + 1, 0, none⟩), .int .i64 (frm s E x.val), .int .i64 (ng E x.val), undef, undef, .int .i64 s, .slice A E.length c, .func (.func 151) #[] #[.pointer (some ⟨w.heap.size + 1 + 1 + 1 + 1 + 1, 0, none⟩), .pointer (some ⟨w.heap.size + 1 + 1 + 1 + 1 + 1 + 1, 0, none⟩)], .int .i64 (frm s E x.val), .int .i64 (ng E x.val), undef, undef, undef, undef, undef, undef, undef, undef, undef, undef, undef, undef, undef, undef, undef, undef], defers := [] }) ?assign ?body ?done ?stop
  case assign =>
    intro l x W K hK
    gi_wp2
    exact hK
  case body =>
    rintro l pre x W ⟨⟨hok, c5, ⟨c6, f6⟩, ⟨c7, f7⟩, ⟨c8, f8⟩, ⟨c9, f9⟩, hzW⟩, hB⟩ hlen
    have hd : (1 : Nat) ≤ 5 - 1 - 1 := by decide
    have HCx := HHC.out W hB pre.length x
    have hsb := sumP_bd (s := s) (E := E) (C := C) hM (l := pre)
    have hpl : pre.length ≤ 1048576 := by omega
    have hmb := hM pre.length (frm s E x.val) (ng E x.val)
    have YES := hide (fun (h : (C pre.length (frm s E x.val) (ng E x.val)).2 = true) => okP_snoc (x := x) hok h)
    have NO := hide (fun (h : (C pre.length (frm s E x.val) (ng E x.val)).2 = false) => okP_bad (s := s) (E := E) (C := C) (l := pre) (x := x) h)
    have SN := hide (sumP_snoc (s := s) (E := E) (C := C) (l := pre) (x := x))
    unfold cAt at SN
    obtain ⟨v, hv⟩ : ∃ v, v = (C pre.length (frm s E x.val) (ng E x.val)).1 := ⟨_, rfl⟩
    obtain ⟨fl, hfl⟩ : ∃ v, v = (C pre.length (frm s E x.val) (ng E x.val)).2 := ⟨_, rfl⟩
    rw [← hv, ← hfl] at HCx
    rw [← hv] at SN hmb
    rw [← hfl] at YES NO
    obtain ⟨m, hm⟩ : ∃ m, m = sumP s E C pre := ⟨_, rfl⟩
    rw [← hm] at c9 hsb SN
    have HCC := hide HCx
    have l1 : w.heap.size + 1 < W.heap.size := by omega
    have l2 : w.heap.size + 1 + 1 < W.heap.size := by omega
    have l3 : w.heap.size + 1 + 1 + 1 < W.heap.size := by omega
    have l4 : w.heap.size + 1 + 1 + 1 + 1 < W.heap.size := by omega
    have ws : IntKind.i64.wrap (m + v) = m + v := IntWalk.i64_in _ (by omega)
    have wn : IntKind.i64.wrap ((pre.length : Int) + 1) = (pre.length : Int) + 1 := IntWalk.i64_in _ (by omega)
    clear HCx hv hfl hm hok hsb hmb
    cases fl
    · have NO' := hide (NO.out rfl)
      clear YES NO SN
      gi_wp2_with (refine ⟨trivial, ?_⟩; gi_at_call 130; refine (CallsIn.inRound l (callsIn_wide.2 HCC.out)).mono ?_; rintro e W2 ⟨rfl, hb⟩; have c5 := keep_cell hb c5; have c6 := keep_cell hb c6; have c7 := keep_cell hb c7; have c8 := keep_cell hb c8; have c9 := keep_cell hb c9; have f6 := (hb.frozen (p := ⟨w.heap.size + 1, 0, none⟩) l1).trans f6; have f7 := (hb.frozen (p := ⟨w.heap.size + 1 + 1, 0, none⟩) l2).trans f7; have f8 := (hb.frozen (p := ⟨w.heap.size + 1 + 1 + 1, 0, none⟩) l3).trans f8; have f9 := (hb.frozen (p := ⟨w.heap.size + 1 + 1 + 1 + 1, 0, none⟩) l4).trans f9)
      exact ⟨(((keeps_below hb).trans (KeepsOthers.setCell _ _ _)).trans (KeepsOthers.setCell _ _ _)).from _, ⟨rfl, NO'.out, by simp [go_sem, c6, c7], by simp [go_sem, c6, c7]⟩, bl_set (bl_set (bl_call hb hB) (show w.heap.size ≤ w.heap.size + 1 by omega) _) (show w.heap.size ≤ w.heap.size + 1 + 1 by omega) _⟩
    · have OK' := hide (YES.out rfl)
      clear YES NO
      gi_wp2_with (refine ⟨trivial, ?_⟩; gi_at_call 130; refine (CallsIn.inRound l (callsIn_wide.2 HCC.out)).mono ?_; rintro e W2 ⟨rfl, hb⟩; have c5 := keep_cell hb c5; have c6 := keep_cell hb c6; have c7 := keep_cell hb c7; have c8 := keep_cell hb c8; have c9 := keep_cell hb c9; have f6 := (hb.frozen (p := ⟨w.heap.size + 1, 0, none⟩) l1).trans f6; have f7 := (hb.frozen (p := ⟨w.heap.size + 1 + 1, 0, none⟩) l2).trans f7; have f8 := (hb.frozen (p := ⟨w.heap.size + 1 + 1 + 1, 0, none⟩) l3).trans f8; have f9 := (hb.frozen (p := ⟨w.heap.size + 1 + 1 + 1 + 1, 0, none⟩) l4).trans f9)
      have hlen1 : (pre ++ [x]).length = pre.length + 1 := by simp
      have hzz := hb.size
      refine ⟨(((keeps_below hb).trans (KeepsOthers.setCell _ _ _)).trans (KeepsOthers.setCell _ _ _)).from _, ((hb.mono hB.size).setCell (p := ⟨w.heap.size + 1 + 1 + 1, 0, none⟩) (show w.heap.size ≤ w.heap.size + 1 + 1 + 1 by omega) _).setCell (p := ⟨w.heap.size + 1 + 1 + 1 + 1, 0, none⟩) (show w.heap.size ≤ w.heap.size + 1 + 1 + 1 + 1 by omega) _, ⟨OK'.out, by simp [go_sem, c5], ⟨by simp [go_sem, c6], by simp [go_sem, f6]⟩, ⟨by simp [go_sem, c7], by simp [go_sem, f7]⟩, ⟨by rw [hlen1]; simp [go_sem, c8, c9], by simp [go_sem, f8]⟩, ⟨by rw [SN.out]; simp [go_sem, c8, c9], by simp [go_sem, f9]⟩, by simp; omega⟩, bl_set (bl_set (bl_call hb hB) (show w.heap.size ≤ w.heap.size + 1 + 1 + 1 by omega) _) (show w.heap.size ≤ w.heap.size + 1 + 1 + 1 + 1 by omega) _⟩
  case done =>
    rintro D ys W hD rfl ⟨⟨hok, c5, ⟨c6, f6⟩, ⟨c7, f7⟩, ⟨c8, f8⟩, ⟨c9, f9⟩, hzW⟩, hB⟩ hK
    have hT := hide (toO_yes ((okP_pcs (Nat.le_refl _)).1 hok))
    rw [← sumP_pcs (Nat.le_refl _)] at hT
    obtain ⟨m, hm⟩ : ∃ m, m = sumP s E C (pcs E.length E.length) := ⟨_, rfl⟩
    rw [← hm] at c9 hT
    clear hm hok
    gi_wp2
    have hp7 : (W.setCell ⟨w.heap.size + 1, 0, none⟩ (.int .i64 m)).cell? ⟨w.heap.size + 1 + 1, 0, none⟩ = some (.bool false) := by simp [go_sem, c7]
    have hK' := ((KeepsOthers.setCell W ⟨w.heap.size + 1, 0, none⟩ (.int .i64 m)).trans (KeepsOthers.setCell _ ⟨w.heap.size + 1 + 1, 0, none⟩ (.bool true))).same D _ hK rfl
    refine ⟨by simp, .inl ⟨_, _, rfl, run_takeDeferred hK', ?_⟩⟩
    have a6 : ((W.setCell ⟨w.heap.size + 1, 0, none⟩ (.int .i64 m)).setCell ⟨w.heap.size + 1 + 1, 0, none⟩ (.bool true)).cell? ⟨w.heap.size + 1, 0, none⟩ = some (.int .i64 m) := by simp [go_sem, c6]
    have a7 : ((W.setCell ⟨w.heap.size + 1, 0, none⟩ (.int .i64 m)).setCell ⟨w.heap.size + 1 + 1, 0, none⟩ (.bool true)).cell? ⟨w.heap.size + 1 + 1, 0, none⟩ = some (.bool true) := by simp [go_sem, c7]
    have h6 := cell_kept a6 (grownBy_putObj' _ D (.deferred none)) (fun r e => by cases e; exact ⟨_, hK', rfl⟩)
    have h7 := cell_kept a7 (grownBy_putObj' _ D (.deferred none)) (fun r e => by cases e; exact ⟨_, hK', rfl⟩)
    refine ⟨.tuple #[.int .i64 m, .bool true], ?_, by rw [hT.out], (bl_set (bl_set hB (show w.heap.size ≤ w.heap.size + 1 by omega) _) (show w.heap.size ≤ w.heap.size + 1 + 1 by omega) _).trans (belowK_b (w := W0) (by omega) _ D _ _ hD hK' rfl rfl)⟩
    simp [results, Try.f129, go_sem, h6, h7]
  case stop =>
    rintro D c pre W hD ⟨k, hk, rfl⟩ ⟨⟨rfl, hno, c6, c7⟩, hB⟩ hK
    have hT := hide (toO_no (s := s) (E := E) (C := C) (fun h => hno ((okP_pcs hk).2 (fun j hj => h j (by omega)))))
    clear hno
    gi_wp2
    refine ⟨by simp, .inl ⟨_, _, rfl, run_takeDeferred hK, ?_⟩⟩
    have h6 := cell_kept c6 (grownBy_putObj' _ D (.deferred none)) (fun r e => by cases e; exact ⟨_, hK, rfl⟩)
    have h7 := cell_kept c7 (grownBy_putObj' _ D (.deferred none)) (fun r e => by cases e; exact ⟨_, hK, rfl⟩)
    refine ⟨.tuple #[.int .i64 0, .bool false], ?_, by rw [hT.out], hB.trans (belowK_b (w := W0) (by omega) W D _ _ hD hK rfl rfl)⟩
    simp [results, Try.f129, go_sem, h6, h7]
end Go.Proofs.Ytmncdpiojhgcdaa
