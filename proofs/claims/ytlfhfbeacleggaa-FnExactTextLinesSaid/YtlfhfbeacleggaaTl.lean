/- TextLines in the program. -/
import Derived.Test.YtlfhfbeacleggaaCw
import Derived.Test.YtlfhfbeacleggaaRpn
import Derived.Test.YtlfhfbeacleggaaTlM
namespace Go.Proofs.Ytlfhfbeacleggaa
open Go.ChangeShapes Go.WideShapes Go.ChangeAt Go.RowKit Go.Shelf
set_option linter.unusedVariables false
attribute [local go_sem] Oper.semAt_some
open Classical

/-- What a function leaves that returns lines that it made. -/
def RetG (w : World) (L : List Gp) (e : Ending) (w' : World) : Prop := ∃ A c, e = .returned (.slice A L.length c) ∧ TO w' 46 w.heap.size A c L ∧ Below w.heap.size w w'
theorem RetG.nil {w w' : World} (hb : Below w.heap.size w w') : RetG w [] (.returned (.slice none 0 0)) w' := ⟨Option.none, 0, rfl, World.ownsRow_nil _ _ _ _, hb⟩
theorem rowIs_kept {w w' : World} {b n : Nat} {t : TypeId} {f : Nat → Value} {row : Option Nat} (h : w.rowIs b t n f) (hg : w.grownBy w' row) (hr : ∀ r, row = some r → ∃ o : Obj, w.heap[r]? = some o ∧ o.isCells = false) : w'.rowIs b t n f :=
  h.of_block (hg.block b h.lt (fun e => by
    obtain ⟨o, ho, hc⟩ := hr b e.symm
    obtain ⟨c, hb, _, _⟩ := h
    rw [hb] at ho
    cases ho
    cases hc))
/-- The cells of lines of one height. -/
def lnF (h : Int) (p : Nat → Int) (j : Nat) : Value := if j % 3 = 2 then .int .i64 (p (j / 3)) else if j % 3 = 0 then .int .i64 h else .int .i64 0
theorem lnF_2 {h : Int} {p : Nat → Int} (j : Nat) : lnF h p (j * 3 + 2) = .int .i64 (p j) := by
  unfold lnF
  rw [if_pos (by omega), show (j * 3 + 2) / 3 = j by omega]
/-- Lines in a row, as records. -/
theorem rowIs_lines {u : World} {g N B : Nat} {t : TypeId} {l : List Int} {h : Int} (hr : u.rowIs g t (N * 3) (lnF h (pnT l l.length))) (hB : B ≤ g) (hN : N ≤ 1000) : TO u t B (some ⟨g, 0, none⟩) N (tlL l h N) := by
  obtain ⟨c, hb, hn, hc⟩ := hr
  unfold TO
  rw [tlL_len]
  have hfl : ((tlL l h N).flatMap Rec.cells).length = N * 3 := by have := flat_len (tlL l h N); rw [tlL_len] at this; exact this
  refine ⟨hfl, .inr ⟨g, N, c, rfl, hB, hb, Nat.le_refl _, by unfold maxLen; omega, hn, ?_⟩⟩
  show c.toList.take (N * 3) = _
  rw [List.take_of_length_le (by simp; omega)]
  apply List.ext_getElem?
  intro j
  rcases Nat.lt_or_ge j (N * 3) with hj | hj
  · rw [Array.getElem?_toList, hc j hj]
    obtain ⟨q, r, hr3, rfl⟩ : ∃ q r, r < 3 ∧ j = q * 3 + r := ⟨j / 3, j % 3, Nat.mod_lt _ (by omega), by omega⟩
    have e1 := flat_get (tlL l h N) (i := q) (j := r) (by rw [tlL_len]; omega) (show r < Rec.size Gp from hr3)
    rw [tlL_at (by omega)] at e1
    change (List.flatMap Rec.cells (tlL l h N))[q * 3 + r]? = _ at e1
    rw [e1]
    unfold lnF
    rcases (by omega : r = 0 ∨ r = 1 ∨ r = 2) with rfl | rfl | rfl
    · rw [if_neg (by omega), if_pos (by omega)]; rfl
    · rw [if_neg (by omega), if_neg (by omega)]; rfl
    · rw [if_pos (by omega), show (q * 3 + 2) / 3 = q by omega]; rfl
  · rw [List.getElem?_eq_none (by simp; omega), List.getElem?_eq_none (by omega)]
/-- Lines as they are made. -/
theorem rowIs_repeat {u : World} {g N : Nat} {t : TypeId} {h : Int} {p : Nat → Int} (hp : ∀ j, p j = 0) (hb : u.heap[g]? = some (.cells (lns (xl h 0 0) N N).toArray t (0, 0))) : u.rowIs g t (N * 3) (lnF h p) := by
  refine ⟨_, hb, by rw [List.size_toArray, lns_len rfl (Nat.le_refl _)], fun j hj => ?_⟩
  rw [List.getElem?_toArray, lns_get rfl hj]
  unfold lnF
  rw [hp]
  rcases (by omega : j % 3 = 0 ∨ j % 3 = 1 ∨ j % 3 = 2) with e | e | e
  · rw [if_neg (by omega), if_pos e, e]; rfl
  · rw [if_neg (by omega), if_neg (by omega), e]; rfl
  · rw [if_pos e, e]; rfl
/-- Two penalties more. -/
theorem rowIs_two {u : World} {g N f m : Nat} {t : TypeId} {h a b : Int} {p q : Nat → Int} (hr : u.rowIs g t (N * 3) (lnF h p)) (ha : a = p f + 100) (hb : b = (if m = f then a else p m) + 150) (hq : ∀ j, q j = p j + (if j = f then 100 else 0) + (if j = m then 150 else 0)) :
    ((u.setCell ⟨g, f * 3 + 2, none⟩ (.int .i64 a)).setCell ⟨g, m * 3 + 2, none⟩ (.int .i64 b)).rowIs g t (N * 3) (lnF h q) := by
  refine ((hr.set (f * 3 + 2) _).set (m * 3 + 2) _).congr (fun j hj => ?_)
  unfold lnF
  have hqj := hq (j / 3)
  rcases (by omega : j % 3 = 0 ∨ j % 3 = 1 ∨ j % 3 = 2) with e | e | e
  · rw [if_neg (by omega), if_neg (by omega), if_neg (by omega), if_pos e, if_neg (by omega)]
  · rw [if_neg (by omega), if_neg (by omega), if_neg (by omega), if_neg (by omega), if_neg (by omega)]
  · obtain ⟨d, rfl⟩ : ∃ d, j = d * 3 + 2 := ⟨j / 3, by omega⟩
    rw [show (d * 3 + 2) / 3 = d by omega] at hqj ⊢
    have c1 : (d * 3 + 2 = m * 3 + 2) ↔ d = m := by omega
    have c2 : (d * 3 + 2 = f * 3 + 2) ↔ d = f := by omega
    have c3 : (d * 3 + 2) % 3 = 2 := by omega
    simp only [c1, c2, c3, if_true]
    by_cases e1 : d = m
    · subst e1
      rw [if_pos rfl]
      congr 1
      rw [hqj, hb, if_pos rfl]
      by_cases e2 : d = f
      · rw [if_pos e2, if_pos e2, ha, e2]
      · rw [if_neg e2, if_neg e2]; omega
    · rw [if_neg e1]
      by_cases e2 : d = f
      · subst e2
        rw [if_pos rfl]
        congr 1
        rw [hqj, ha, if_pos rfl, if_neg e1]
        omega
      · rw [if_neg e2]
        congr 1
        rw [hqj, if_neg e2, if_neg e1]
        omega
theorem cells3R (w : World) (a b c : Int) (t : TypeId) : ∀ j v, (xl a b c)[j]? = some v → (w.alloc (.cells #[.int .i64 a, .int .i64 b, .int .i64 c] t)).cell? ⟨w.heap.size, j, none⟩ = some v := fun j v hv => by
  rcases (by omega : j = 0 ∨ j = 1 ∨ j = 2 ∨ 3 ≤ j) with rfl | rfl | rfl | h
  · simp [xl] at hv; subst hv; simp [go_sem]
  · simp [xl] at hv; subst hv; simp [go_sem]
  · simp [xl] at hv; subst hv; simp [go_sem]
  · rw [List.getElem?_eq_none (by simp [xl]; omega)] at hv; cases hv
set_option maxRecDepth 100000 in
set_option maxHeartbeats 4000000 in
theorem TextLines_i (w : World) (A : Option Addr) (n c : Nat) (l : List Int) (h : Int) (ha : IL w A n l) (hn : n ≤ 1048576) :
    Calls Try.prog 33 #[.slice A n c, .int .i64 h] w (RetG w (tlO l h)) := by
  obtain rfl : n = l.length := ha.1
  have HA := hide ha
  have CL := hide (countLines_i w A l.length c l ha (by omega))
  clear ha
  cases qo : okW l
  · have O := hide (tlO_no (l := l) (h := h) (by rw [qo]; rfl))
    rw [qo] at CL
    rw [O.out]
    go_enter Try.func33, Try.ntmps33
    go_wp2_with (go_at_call 88; (with_reducible refine CL.out.mono ?_); rintro e w' ⟨⟨x, rfl, hx⟩, rfl⟩)
    go_ret
    exact RetG.nil (bl_refl _)
  rw [qo] at CL
  have ok := okW_iff.1 qo
  cases q1 : inB h 1 1000
  · have O := hide (tlO_no (l := l) (h := h) (by rw [q1]; simp))
    rw [O.out]
    clear ok
    go_enter Try.func33, Try.ntmps33
    go_wp2_with (first | (go_at_call 88; (with_reducible refine CL.out.mono ?_); rintro e w' ⟨⟨x, rfl, hx⟩, rfl⟩; clear hx) | (go_at_call 89; refine (within_any _ _ _ _).mono ?_; rintro e w' ⟨rfl, rfl⟩))
    go_ret
    exact RetG.nil (bl_refl _)
  have O := hide (tlO_yes (l := l) (h := h) (by rw [qo, q1]; rfl))
  rw [O.out]
  obtain ⟨N, hN⟩ : ∃ N, N = fiL l l.length := ⟨_, rfl⟩
  have hN40 : N ≤ 40 := by rw [hN]; exact fiL_le ok (Nat.le_refl _)
  have hN1 : 1 ≤ N := by have := len_fiL ok.1; have := ok.2.2; omega
  have HP := hide (show (N : Int) = pfx l l.length by rw [hN]; exact fiL_pfx ok.1 (Nat.le_refl _))
  have HN := hide hN
  rw [← hN]
  have HOK := hide ok
  clear qo O hN
  have RP := hide (fun (u : World) (b : Nat) (hb : b < u.heap.size) (hc : ∀ j v, (xl h 0 0)[j]? = some v → u.cell? ⟨b, j, none⟩ = some v) => Repeat_line u b N h 0 0 hN1 hN40 hb hc)
  refine (callsIn_wide (n := 5)).1 ?_
  refine callsIn_of_wp_marks Try.func33 rfl trivial ?_ rfl
  simp only [Try.ntmps33, List.size_toArray, List.length_cons, List.length_nil, Nat.reduceAdd, Nat.reduceSub, Array.replicate_succ, Array.replicate_zero, List.push_toArray, List.append_toArray, List.nil_append, List.cons_append]
  gi_wp2_with (first | (refine ⟨trivial, ?_⟩; gi_at_call 88; (with_reducible refine (callsIn_wide.2 CL.out).mono ?_); rintro e w' ⟨⟨x, rfl, hx⟩, rfl⟩; obtain rfl : x = (N : Int) := (hx rfl).trans HP.out.symm; clear hx) | (refine ⟨trivial, ?_⟩; gi_at_call 89; (with_reducible refine (callsIn_wide.2 (within_any _ _ _ _)).mono ?_); rintro e w' ⟨rfl, rfl⟩) | (refine ⟨trivial, ?_⟩; gi_at_call 90; (with_reducible refine (callsIn_wide.2 (RP.out _ w.heap.size (by simp) (cells3R w h 0 0 _))).mono ?_); rintro e u1 ⟨g, rfl, ⟨hg1, hg2⟩, hb⟩; have HB1 := hide hb; have HG := hide hg2; have hz1 := hb.size; clear hb hg2) | (refine ⟨trivial, ?_⟩; gi_at_call 91; (with_reducible refine (callsIn_wide.2 (severalLines_i _ _ _ _)).mono ?_); rintro e w' ⟨rfl, rfl⟩))
  simp at hg1 hz1
  have hgu : g < u1.heap.size := (Array.getElem?_eq_some_iff.1 HG.out).1
  have c7 : ((u1.alloc (.cells #[.slice (some ⟨g, 0, none⟩) N N] 35)).alloc (.cells #[.slice A l.length c] 32)).cell? ⟨u1.heap.size, 0, none⟩ = some (.slice (some ⟨g, 0, none⟩) N N) := by simp [go_sem]
  have c10 : ((u1.alloc (.cells #[.slice (some ⟨g, 0, none⟩) N N] 35)).alloc (.cells #[.slice A l.length c] 32)).cell? ⟨u1.heap.size + 1, 0, none⟩ = some (.slice A l.length c) := by simp [go_sem]
  have hz0 : ((u1.alloc (.cells #[.slice (some ⟨g, 0, none⟩) N N] 35)).alloc (.cells #[.slice A l.length c] 32)).heap.size = u1.heap.size + 2 := by simp
  have hB0 : Below w.heap.size w ((u1.alloc (.cells #[.slice (some ⟨g, 0, none⟩) N N] 35)).alloc (.cells #[.slice A l.length c] 32)) := bl_alloc (bl_alloc (bl_call HB1.out (bl_alloc (bl_refl w) _)) _) _
  have hR0 : Hid (((u1.alloc (.cells #[.slice (some ⟨g, 0, none⟩) N N] 35)).alloc (.cells #[.slice A l.length c] 32)).heap[g]? = some (.cells (lns (xl h 0 0) N N).toArray 46 (0, 0))) := hide ((Below.heap_alloc _ _ _ (by simp; omega)).trans ((Below.heap_alloc _ _ _ hgu).trans HG.out))
  obtain ⟨W0, hW0⟩ : ∃ W0, W0 = ((u1.alloc (.cells #[.slice (some ⟨g, 0, none⟩) N N] 35)).alloc (.cells #[.slice A l.length c] 32)) := ⟨_, rfl⟩
  rw [← hW0] at c7 c10 hz0 hB0 hR0 ⊢
  clear hW0 CL HB1 HG RP
  have hEE : ∀ j, j < l.length → ∃ b o, A = some ⟨b, o, none⟩ ∧ (b < w.heap.size ∧ b < W0.heap.size) ∧ W0.cell? ⟨b, o + j, none⟩ = some (.int .i64 (ng l j)) := fun j hj => by
    obtain ⟨b, o, e, hb, hc⟩ := HA.out.at_ hj
    have hbl : b < w.heap.size := World.block_lt_of_cell? w _ hc
    exact ⟨b, o, e, ⟨hbl, by omega⟩, (hB0.cell (p := ⟨b, o + j, none⟩) hbl).trans hc⟩
  refine range_seq (F := Fence.wide) (n := 5) rfl (by decide) (gf := 149) (lb := #[.pointer (some ⟨u1.heap.size + 1, 0, none⟩)]) rfl trivial (enters_of Try.func149 (by kernel_rfl) rfl)
    (several_seq Fence.wide 4 trivial rfl (by decide) (u1.heap.size + 1) w.heap.size l A c ok W0 (by omega) c10 hEE) belowK_t (belowK_b (by omega)) (Below.refl _ _) (fun _ => rfl)
    (fun k W => (W.cell? ⟨u1.heap.size, 0, none⟩ = some (.slice (some ⟨g, 0, none⟩) N N) ∧ ∀ i, i ≤ l.length → (svL l i).length = k → W.rowIs g 46 (N * 3) (lnF h (pnT l i))) ∧ Below w.heap.size w W)
    (OwnFrom.and (Own.from (fun s' A' B' row hs hg hr => ⟨cell_kept hs.1 hg hr, fun i h1 h2 => rowIs_kept (hs.2 i h1 h2) hg hr⟩) _) (ownFrom_below (Nat.le_refl _) (by omega)))
    ⟨⟨c7, fun i h1 h2 => rowIs_repeat (fun j => pnT_same (i := 0) (Nat.zero_le i) h2 j) hR0.out⟩, hB0⟩
    (fun k => { tmps := #[.slice A l.length c, .int .i64 h, undef, undef, .slice none 0 0, .int .i64 N, .bool true, .pointer (some ⟨u1.heap.size, 0, none⟩), .int .i64 (svG l k).1, .int .i64 (svG l k).2, .tuple #[.int .i64 N, .bool true], .slice A l.length c, .tuple #[.int .i64 N, .bool true], .int .i64 N, .bool true, .bool true, .bool false, .bool false, .int .i64 h, .bool true, .bool false, .bool false, .int .i64 h, .agg #[.int .i64 h, .int .i64 0, .int .i64 0], .slice (some ⟨w.heap.size, 0, none⟩) 1 1, .int .i64 N, .slice (some ⟨g, 0, none⟩) N N, .slice A l.length c, .func (.func 149) #[] #[.pointer (some ⟨u1.heap.size + 1, 0, none⟩)], .int .i64 (svG l k).1, .int .i64 (svG l k).2, undef, undef, undef, undef, undef, undef, undef, undef, undef, undef, undef, undef, undef, undef, undef, undef, undef, undef], defers := [] }) ?assign ?body ?done
  case assign =>
    intro lp k W K hk hK
    gi_wp2
    exact hK
  case body =>
    rintro lp k W hk ⟨⟨c7, hrow⟩, hB⟩
    obtain ⟨i, hi, hik, hz1', hsv⟩ := sv_at hk
    have hp := fiL_pfx HOK.out.1 (i := i) (by omega)
    have hs := fiL_succ HOK.out.1 hi
    have hfe := fiL_mono HOK.out.1 (i := i + 1) (by omega) (Nat.le_refl _)
    rw [← HN.out] at hfe
    have hg0 : svG l k = (pfx l i, pfx l i + ng l i - 1) := by unfold svG; rw [hsv]; rfl
    obtain ⟨f, hf⟩ : ∃ f, f = fiL l i := ⟨_, rfl⟩
    obtain ⟨m, hm⟩ : ∃ m, m + 2 = f + (ng l i).toNat := ⟨f + (ng l i).toNat - 2, by omega⟩
    have hr0 := hrow i (by omega) hik
    have HQ := hide (fun j => pnT_two hz1' j)
    have HI1 := hide (show (svL l (i + 1)).length = k + 1 by rw [sv_len_succ hz1', hik])
    have HS := hide (fun (i' : Nat) (h1 : i' ≤ l.length) (h2 : (svL l i').length = k + 1) (j : Nat) => show pnT l i' j = pnT l (i + 1) j by
      rcases Nat.le_total i' (i + 1) with e | e
      · exact (pnT_same e (by rw [HI1.out, h2]) j).symm
      · exact pnT_same e (by rw [HI1.out, h2]) j)
    rw [hg0]
    have e1 : pfx l i = (f : Int) := by omega
    obtain ⟨y2, hy2⟩ : ∃ y2, y2 = pfx l i + ng l i - 1 := ⟨_, rfl⟩
    have e2 : y2 - 1 = (m : Int) := by omega
    rw [← hy2, e1]
    have d0 := hr0.cell (i := f * 3 + 2) (by omega)
    have d1 := hr0.cell (i := m * 3 + 2) (by omega)
    have g0 := hr0.frozen (f * 3 + 2)
    have g1 := hr0.frozen (m * 3 + 2)
    rw [lnF_2] at d0 d1
    have bd0 := pnT_bd (l := l) i f
    have bd1 := pnT_bd (l := l) i m
    have HR0 := hide hr0
    have hfN : f < N := by omega
    have hmN : m < N := by omega
    have HMF := hide (show ∀ j, j = m ↔ j + 2 = fiL l i + (ng l i).toNat from fun j => by omega)
    have HF := hide hf
    have hl40 : l.length ≤ 40 := by have := len_fiL HOK.out.1; have := HN.out; omega
    obtain ⟨a, ha⟩ : ∃ a, a = pnT l i f := ⟨_, rfl⟩
    obtain ⟨b, hb⟩ : ∃ b, b = pnT l i m := ⟨_, rfl⟩
    rw [← ha] at d0 bd0
    rw [← hb] at d1 bd1
    have HA2 := hide ha
    have HB2 := hide hb
    have HBB := hide hB
    have hlt7 := World.block_lt_of_cell? W _ c7
    have hne7 : ¬ u1.heap.size = g := by omega
    have hne8 : ¬ g = u1.heap.size := by omega
    clear ha hb hf hm hsv hik hrow hr0 hg0 hs hfe hp e1 hy2 hB hz1'
    by_cases hmf : m = f
    · subst hmf
      have hab := hide (show b = a by rw [HA2.out, HB2.out])
      gi_wp2
      exact ⟨((KeepsOthers.setCell _ _ _).trans (KeepsOthers.setCell _ _ _)).from _, ((Below.refl _ _).setCell (p := ⟨g, m * 3 + 2, none⟩) (show w.heap.size ≤ g by omega) _).setCell (p := ⟨g, m * 3 + 2, none⟩) (show w.heap.size ≤ g by omega) _, ⟨by simp [go_sem, c7, hne7, hne8], fun i' h1 h2 => rowIs_two HR0.out (f := m) (m := m) (by rw [HB2.out]) (by rw [if_pos rfl]) (fun j => by rw [HS.out i' h1 h2 j, HQ.out j, ← HF.out]; simp only [HMF.out j, ← HF.out])⟩, bl_set (bl_set HBB.out (show w.heap.size ≤ g by omega) _) (show w.heap.size ≤ g by omega) _⟩
    · have hn1 : ¬ m * 3 + 2 = f * 3 + 2 := by omega
      have hn2 : ¬ f * 3 + 2 = m * 3 + 2 := by omega
      gi_wp2
      exact ⟨((KeepsOthers.setCell _ _ _).trans (KeepsOthers.setCell _ _ _)).from _, ((Below.refl _ _).setCell (p := ⟨g, f * 3 + 2, none⟩) (show w.heap.size ≤ g by omega) _).setCell (p := ⟨g, m * 3 + 2, none⟩) (show w.heap.size ≤ g by omega) _, ⟨by simp [go_sem, c7, hne7, hne8], fun i' h1 h2 => rowIs_two HR0.out (f := f) (m := m) (by rw [HA2.out]) (by rw [if_neg hmf, HB2.out]) (fun j => by rw [HS.out i' h1 h2 j, HQ.out j, ← HF.out]; simp only [HMF.out j, ← HF.out])⟩, bl_set (bl_set HBB.out (show w.heap.size ≤ g by omega) _) (show w.heap.size ≤ g by omega) _⟩
  case done =>
    rintro D W hD ⟨⟨c7, hrow⟩, hB⟩ hK
    have hr := rowIs_kept (hrow l.length (Nat.le_refl _) rfl) (grownBy_putObj' W D (.deferred none)) (fun r e => by cases e; exact ⟨_, hK, rfl⟩)
    have HR := hide (rowIs_lines hr (B := w.heap.size) (by omega) (by omega))
    have HL := hide (tlL_len (l := l) (h := h) (n := N))
    clear hr hrow
    gi_wp2
    refine ⟨by simp, .inl ⟨_, _, rfl, run_takeDeferred hK, ?_⟩⟩
    refine ⟨.slice (some ⟨g, 0, none⟩) N N, by simp [results, Try.results33, go_sem], some ⟨g, 0, none⟩, N, by rw [HL.out], HR.out, hB.trans (belowK_b (n₀ := w.heap.size) (w := W0) (by omega) _ D _ _ hD hK rfl rfl)⟩
end Go.Proofs.Ytlfhfbeacleggaa
