/- CountWidows in the program. -/
import Derived.Test.YtlfhfbeacleggaaWidI
import Derived.Stop.RegionWithIn
namespace Go.Proofs.Ytlfhfbeacleggaa
open Go.ChangeShapes Go.WideShapes Go.ChangeAt Go.RowKit Go.Shelf
set_option linter.unusedVariables false
attribute [local go_sem] Oper.semAt_some
open Classical

noncomputable def cwN (l : List Int) (f : Int × Int → Bool) (k : Nat) : Nat := ((svL l l.length).take k).countP f
noncomputable def clF (E : List Int) (x : Int × Int) : Bool := hasI E (x.1 + 1)
noncomputable def wiF (E : List Int) (x : Int × Int) : Bool := hasI E x.2
theorem cwN_yes {l : List Int} {f : Int × Int → Bool} {k : Nat} (h : k < (svL l l.length).length) (hf : f (svG l k) = true) : cwN l f (k + 1) = cwN l f k + 1 := by
  unfold cwN
  rw [List.take_succ_eq_append_getElem h, List.countP_append]
  unfold svG at hf
  rw [List.getElem?_eq_getElem h, Option.getD_some] at hf
  simp [hf]
theorem cwN_no {l : List Int} {f : Int × Int → Bool} {k : Nat} (h : k < (svL l l.length).length) (hf : f (svG l k) = false) : cwN l f (k + 1) = cwN l f k := by
  unfold cwN
  rw [List.take_succ_eq_append_getElem h, List.countP_append]
  unfold svG at hf
  rw [List.getElem?_eq_getElem h, Option.getD_some] at hf
  simp [hf]
theorem cwN_le {l : List Int} {f : Int × Int → Bool} {k : Nat} : cwN l f k ≤ k := by
  unfold cwN
  have := List.countP_le_length (p := f) (l := (svL l l.length).take k)
  simp at this
  omega
theorem svL_le {l : List Int} : ∀ {k : Nat}, (svL l k).length ≤ k
  | 0 => Nat.le_refl _
  | k + 1 => by
    have := svL_le (l := l) (k := k)
    simp only [svL, List.length_append]
    split <;> simp <;> omega
theorem svL_bd {l : List Int} (ok : OkW l) : ∀ {k : Nat}, k ≤ l.length → ∀ x ∈ svL l k, (0 ≤ x.1 ∧ x.1 ≤ 40) ∧ (0 ≤ x.2 ∧ x.2 ≤ 40)
  | 0, _, x, hx => by simp [svL] at hx
  | k + 1, hk, x, hx => by
    simp only [svL] at hx
    rcases List.mem_append.1 hx with h | h
    · exact svL_bd ok (by omega) x h
    · split at h
      · next q =>
        simp at h
        subst h
        have a := (show PosTo l k from fun j hj => ok.1 j (by omega)).ge
        have b := ok.1.mono (k := k + 1) (by omega)
        have c : pfx l (k + 1) = pfx l k + ng l k := rfl
        have d := ok.2.1
        dsimp only
        omega
      · simp at h
/-- What CountWidows answers. -/
noncomputable def cwV (l E : List Int) : Int × Int := if okW l then ((cwN l (clF E) (svL l l.length).length : Int), (cwN l (wiF E) (svL l l.length).length : Int)) else (-1, -1)
theorem cwV_no {l E : List Int} (h : okW l = false) : cwV l E = (-1, -1) := by unfold cwV; rw [h]; rfl
theorem cwV_yes {l E : List Int} (h : okW l = true) : cwV l E = ((cwN l (clF E) (svL l l.length).length : Int), (cwN l (wiF E) (svL l l.length).length : Int)) := by unfold cwV; rw [h]; rfl
theorem severalLines_i (A : Option Addr) (n c : Nat) (w : World) :
    Calls Try.prog 91 #[.slice A n c] w fun e w' => e = .returned (.func (.func 149) #[] #[.pointer (some ⟨w.heap.size, 0, none⟩)]) ∧ w.alloc (.cells #[.slice A n c] 32) = w' := by
  go_enter Try.func91, Try.ntmps91
  go_wp2
  go_ret
  exact ⟨rfl, rfl⟩
theorem several_seq (F : Fence) (n : Nat) (h7 : F.fn 149) (hro : F.round = none) (hn : 1 ≤ n) (B1 n₀ : Nat) (L : List Int) (A : Option Addr) (c : Nat) (ok : OkW L) (w : World) (hb1 : B1 < w.heap.size)
    (hB1 : w.cell? ⟨B1, 0, none⟩ = some (.slice A L.length c)) (hE : ∀ j, j < L.length → ∃ b o, A = some ⟨b, o, none⟩ ∧ (b < n₀ ∧ b < w.heap.size) ∧ w.cell? ⟨b, o + j, none⟩ = some (.int .i64 (ng L j))) : SeqN F n Try.prog 149 #[.pointer (some ⟨B1, 0, none⟩)] (encS L) (Below n₀) (svL L L.length).length w := fun l J W hW _ hY h0 =>
  several1_in F n h7 hro hn l B1 n₀ L A c ok J hY W ((hW.cell (p := ⟨B1, 0, none⟩) hb1).trans hB1) (fun j hj => by
    obtain ⟨b, o, e, ⟨h1, h2⟩, h3⟩ := hE j hj
    exact ⟨b, o, e, h1, (hW.cell (p := ⟨b, o + j, none⟩) h2).trans h3⟩) h0
set_option maxRecDepth 100000 in
set_option maxHeartbeats 4000000 in
theorem CountWidows_i (w : World) (A B : Option Addr) (n c m d : Nat) (l E : List Int) (ha : IL w A n l) (hn : n ≤ 1048576) (hE : IL w B m E) (hm : m ≤ 1048576) :
    Calls Try.prog 43 #[.slice A n c, .slice B m d] w fun e w' => e = .returned (.tuple #[.int .i64 (cwV l E).1, .int .i64 (cwV l E).2]) ∧ Below w.heap.size w w' := by
  obtain rfl : n = l.length := ha.1
  obtain rfl : m = E.length := hE.1
  have HA := hide ha
  have HE := hide hE
  have CL := hide (fun (u : World) (hu : Below w.heap.size w u) => countLines_i u A l.length c l (HA.out.below hu) (by omega))
  clear ha hE
  cases qo : okW l
  · have O := hide (cwV_no (E := E) qo)
    rw [qo] at CL
    rw [O.out]
    go_enter Try.func43, Try.ntmps43
    go_wp2_with (go_at_call 88; (with_reducible refine (CL.out _ (by (repeat' (first | with_reducible exact bl_refl _ | with_reducible assumption | with_reducible refine bl_alloc ?_ _ | with_reducible refine bl_set ?_ ?_ _ | with_reducible refine bl_drewN ?_ _ | with_reducible refine bl_drew ?_ | with_reducible refine bl_call (by assumption) ?_)); (all_goals (first | omega | (simp; done) | (simp; omega))))).mono ?_); rintro e w' ⟨⟨x, rfl, hx⟩, rfl⟩)
    go_ret2
    exact ⟨rfl, (by (repeat' (first | with_reducible exact bl_refl _ | with_reducible assumption | with_reducible refine bl_alloc ?_ _ | with_reducible refine bl_set ?_ ?_ _ | with_reducible refine bl_drewN ?_ _ | with_reducible refine bl_drew ?_ | with_reducible refine bl_call (by assumption) ?_)); (all_goals (first | omega | (simp; done) | (simp; omega))))⟩
  rw [qo] at CL
  have O := hide (cwV_yes (E := E) qo)
  have ok := okW_iff.1 qo
  rw [O.out]
  have CT := hide (fun (u : World) (hu : Below w.heap.size w u) (x : Int) => ContainsInt_w u B E.length d E x (HE.out.below hu) (by omega))
  refine (callsIn_wide (n := 5)).1 ?_
  refine callsIn_of_wp_marks Try.func43 rfl trivial ?_ rfl
  simp only [Try.ntmps43, List.size_toArray, List.length_cons, List.length_nil, Nat.reduceAdd, Nat.reduceSub, Array.replicate_succ, Array.replicate_zero, List.push_toArray, List.append_toArray, List.nil_append, List.cons_append]
  gi_wp2_with (first | (refine ⟨trivial, ?_⟩; gi_at_call 88; (with_reducible refine (callsIn_wide.2 (CL.out _ (by (repeat' (first | with_reducible exact bl_refl _ | with_reducible assumption | with_reducible refine bl_alloc ?_ _ | with_reducible refine bl_set ?_ ?_ _ | with_reducible refine bl_drewN ?_ _ | with_reducible refine bl_drew ?_ | with_reducible refine bl_call (by assumption) ?_)); (all_goals (first | omega | (simp; done) | (simp; omega)))))).mono ?_); rintro e w' ⟨⟨x, rfl, hx⟩, rfl⟩; have HX := hide hx; clear hx) | (refine ⟨trivial, ?_⟩; gi_at_call 91; (with_reducible refine (callsIn_wide.2 (severalLines_i _ _ _ _)).mono ?_); rintro e w' ⟨rfl, rfl⟩))
  have c3 : ((((w.alloc (.cells #[.slice B E.length d] 32)).alloc (.cells #[.int .i64 0] 3)).alloc (.cells #[.int .i64 0] 3)).alloc (.cells #[.slice A l.length c] 32)).cell? ⟨w.heap.size, 0, none⟩ = some (.slice B E.length d) := by simp [go_sem]
  have c8 : ((((w.alloc (.cells #[.slice B E.length d] 32)).alloc (.cells #[.int .i64 0] 3)).alloc (.cells #[.int .i64 0] 3)).alloc (.cells #[.slice A l.length c] 32)).cell? ⟨w.heap.size + 1, 0, none⟩ = some (.int .i64 0) := by simp [go_sem]
  have f8 : ((((w.alloc (.cells #[.slice B E.length d] 32)).alloc (.cells #[.int .i64 0] 3)).alloc (.cells #[.int .i64 0] 3)).alloc (.cells #[.slice A l.length c] 32)).frozen? ⟨w.heap.size + 1, 0, none⟩ = false := by simp [go_sem]
  have c9 : ((((w.alloc (.cells #[.slice B E.length d] 32)).alloc (.cells #[.int .i64 0] 3)).alloc (.cells #[.int .i64 0] 3)).alloc (.cells #[.slice A l.length c] 32)).cell? ⟨w.heap.size + 1 + 1, 0, none⟩ = some (.int .i64 0) := by simp [go_sem]
  have f9 : ((((w.alloc (.cells #[.slice B E.length d] 32)).alloc (.cells #[.int .i64 0] 3)).alloc (.cells #[.int .i64 0] 3)).alloc (.cells #[.slice A l.length c] 32)).frozen? ⟨w.heap.size + 1 + 1, 0, none⟩ = false := by simp [go_sem]
  have c10 : ((((w.alloc (.cells #[.slice B E.length d] 32)).alloc (.cells #[.int .i64 0] 3)).alloc (.cells #[.int .i64 0] 3)).alloc (.cells #[.slice A l.length c] 32)).cell? ⟨w.heap.size + 1 + 1 + 1, 0, none⟩ = some (.slice A l.length c) := by simp [go_sem]
  have hz0 : ((((w.alloc (.cells #[.slice B E.length d] 32)).alloc (.cells #[.int .i64 0] 3)).alloc (.cells #[.int .i64 0] 3)).alloc (.cells #[.slice A l.length c] 32)).heap.size = w.heap.size + 4 := by simp
  have hB0 : Below w.heap.size w ((((w.alloc (.cells #[.slice B E.length d] 32)).alloc (.cells #[.int .i64 0] 3)).alloc (.cells #[.int .i64 0] 3)).alloc (.cells #[.slice A l.length c] 32)) := by
    repeat' (first | exact bl_refl _ | refine bl_alloc ?_ _)
  obtain ⟨W0, hW0⟩ : ∃ W0, W0 = ((((w.alloc (.cells #[.slice B E.length d] 32)).alloc (.cells #[.int .i64 0] 3)).alloc (.cells #[.int .i64 0] 3)).alloc (.cells #[.slice A l.length c] 32)) := ⟨_, rfl⟩
  rw [← hW0] at c3 c8 f8 c9 f9 c10 hz0 hB0 ⊢
  clear hW0 CL HX
  have hEE : ∀ j, j < l.length → ∃ b o, A = some ⟨b, o, none⟩ ∧ (b < w.heap.size ∧ b < W0.heap.size) ∧ W0.cell? ⟨b, o + j, none⟩ = some (.int .i64 (ng l j)) := fun j hj => by
    obtain ⟨b, o, e, hb, hc⟩ := HA.out.at_ hj
    have hbl : b < w.heap.size := World.block_lt_of_cell? w _ hc
    exact ⟨b, o, e, ⟨hbl, by omega⟩, (hB0.cell (p := ⟨b, o + j, none⟩) hbl).trans hc⟩
  have hsl := svL_le (l := l) (k := l.length)
  have SB := hide (fun (k : Nat) (hk : k < (svL l l.length).length) => svL_bd ok (Nat.le_refl _) _ (List.getElem_mem hk))
  refine range_seq (F := Fence.wide) (n := 5) rfl (by decide) (gf := 149) (lb := #[.pointer (some ⟨w.heap.size + 1 + 1 + 1, 0, none⟩)]) rfl trivial (enters_of Try.func149 (by kernel_rfl) rfl)
    (several_seq Fence.wide 4 trivial rfl (by decide) (w.heap.size + 1 + 1 + 1) w.heap.size l A c ok W0 (by omega) c10 hEE) belowK_t (belowK_b (by omega)) (Below.refl _ _) (fun _ => rfl)
    (fun k W => (W.cell? ⟨w.heap.size, 0, none⟩ = some (.slice B E.length d) ∧ (W.cell? ⟨w.heap.size + 1, 0, none⟩ = some (.int .i64 (cwN l (clF E) k)) ∧ W.frozen? ⟨w.heap.size + 1, 0, none⟩ = false) ∧ (W.cell? ⟨w.heap.size + 1 + 1, 0, none⟩ = some (.int .i64 (cwN l (wiF E) k)) ∧ W.frozen? ⟨w.heap.size + 1 + 1, 0, none⟩ = false)) ∧ Below w.heap.size w W)
    (OwnFrom.and (Own.from (fun s' A' B' row hs hg hr => ⟨cell_kept hs.1 hg hr, ⟨cell_kept hs.2.1.1 hg hr, (frozen_kept hs.2.1.1 hg hr).trans hs.2.1.2⟩, ⟨cell_kept hs.2.2.1 hg hr, (frozen_kept hs.2.2.1 hg hr).trans hs.2.2.2⟩⟩) _) (ownFrom_below (Nat.le_refl _) (by omega)))
    ⟨⟨c3, ⟨c8, f8⟩, ⟨c9, f9⟩⟩, hB0⟩
    (fun k => { tmps := #[.slice A l.length c, .slice B E.length d, undef, .pointer (some ⟨w.heap.size, 0, none⟩), .int .i64 0, .int .i64 0, .int .i64 x, .bool true, .pointer (some ⟨w.heap.size + 1, 0, none⟩), .pointer (some ⟨w.heap.size + 1 + 1, 0, none⟩), .int .i64 (svG l k).1, .int .i64 (svG l k).2, .tuple #[.int .i64 x, .bool true], .slice A l.length c, .tuple #[.int .i64 x, .bool true], .int .i64 x, .bool true, .bool true, .bool false, .slice A l.length c, .func (.func 149) #[] #[.pointer (some ⟨w.heap.size + 1 + 1 + 1, 0, none⟩)], .int .i64 (svG l k).1, .int .i64 (svG l k).2, undef, undef, undef, undef, undef, undef, undef, undef, undef, undef, undef, undef, undef], defers := [] }) ?assign ?body ?done
  case assign =>
    intro lp k W K hk hK
    gi_wp2
    exact hK
  case body =>
    rintro lp k W hk ⟨⟨c3, ⟨c8, f8⟩, ⟨c9, f9⟩⟩, hB⟩
    have hd : (1 : Nat) ≤ 5 - 1 - 1 := by decide
    have sb := SB.out k hk
    rw [show (svL l l.length)[k] = svG l k by unfold svG; rw [List.getElem?_eq_getElem hk, Option.getD_some]] at sb
    have Y1 := hide (fun h => cwN_yes (l := l) (f := clF E) hk h)
    have N1 := hide (fun h => cwN_no (l := l) (f := clF E) hk h)
    have Y2 := hide (fun h => cwN_yes (l := l) (f := wiF E) hk h)
    have N2 := hide (fun h => cwN_no (l := l) (f := wiF E) hk h)
    have b1 := cwN_le (l := l) (f := clF E) (k := k)
    have b2 := cwN_le (l := l) (f := wiF E) (k := k)
    obtain ⟨y, hy⟩ : ∃ y, y = svG l k := ⟨_, rfl⟩
    rw [← hy] at sb Y1 N1 Y2 N2 ⊢
    unfold clF at Y1 N1
    unfold wiF at Y2 N2
    obtain ⟨y1, y2⟩ := y
    simp only at sb Y1 N1 Y2 N2
    change Hid (_ → cwN l (clF E) (k + 1) = cwN l (clF E) k + 1) at Y1
    change Hid (_ → cwN l (clF E) (k + 1) = cwN l (clF E) k) at N1
    change Hid (_ → cwN l (wiF E) (k + 1) = cwN l (wiF E) k + 1) at Y2
    change Hid (_ → cwN l (wiF E) (k + 1) = cwN l (wiF E) k) at N2
    obtain ⟨p1, hp1⟩ : ∃ p, p = cwN l (clF E) k := ⟨_, rfl⟩
    obtain ⟨p2, hp2⟩ : ∃ p, p = cwN l (wiF E) k := ⟨_, rfl⟩
    rw [← hp1] at c8 b1 Y1 N1
    rw [← hp2] at c9 b2 Y2 N2
    clear hy hp1 hp2
    cases e1 : hasI E (y1 + 1)
    · have M1 := hide (N1.out e1)
      cases e2 : hasI E y2
      · have M2 := hide (N2.out e2)
        clear Y1 N1 Y2 N2
        gi_wp2_with (refine ⟨trivial, ?_⟩; gi_at_call 97; (with_reducible refine (CallsIn.inRound lp (callsIn_wide.2 (CT.out _ (by (repeat' (first | with_reducible exact bl_refl _ | with_reducible assumption | with_reducible refine bl_alloc ?_ _ | with_reducible refine bl_set ?_ ?_ _ | with_reducible refine bl_drewN ?_ _ | with_reducible refine bl_drew ?_ | with_reducible refine bl_call (by assumption) ?_)); (all_goals (first | omega | (simp; done) | (simp; omega)))) _))).mono ?_); rintro e w' ⟨rfl, rfl⟩)
        exact ⟨(KeepsOthers.refl _).from _, Below.refl _ _, ⟨c3, ⟨by rw [M1.out]; exact c8, f8⟩, ⟨by rw [M2.out]; exact c9, f9⟩⟩, hB⟩
      · have M2 := hide (Y2.out e2)
        clear Y1 N1 Y2 N2
        gi_wp2_with (refine ⟨trivial, ?_⟩; gi_at_call 97; (with_reducible refine (CallsIn.inRound lp (callsIn_wide.2 (CT.out _ (by (repeat' (first | with_reducible exact bl_refl _ | with_reducible assumption | with_reducible refine bl_alloc ?_ _ | with_reducible refine bl_set ?_ ?_ _ | with_reducible refine bl_drewN ?_ _ | with_reducible refine bl_drew ?_ | with_reducible refine bl_call (by assumption) ?_)); (all_goals (first | omega | (simp; done) | (simp; omega)))) _))).mono ?_); rintro e w' ⟨rfl, rfl⟩)
        exact ⟨(KeepsOthers.setCell _ _ _).from _, (Below.refl _ _).setCell (p := ⟨w.heap.size + 1 + 1, 0, none⟩) (show w.heap.size ≤ w.heap.size + 1 + 1 by omega) _, ⟨by simp [go_sem, c3], ⟨by rw [M1.out]; simp [go_sem, c8], by simp [go_sem, f8]⟩, ⟨by rw [M2.out]; simp [go_sem, c9], by simp [go_sem, f9]⟩⟩, bl_set hB (show w.heap.size ≤ w.heap.size + 1 + 1 by omega) _⟩
    · have M1 := hide (Y1.out e1)
      cases e2 : hasI E y2
      · have M2 := hide (N2.out e2)
        clear Y1 N1 Y2 N2
        gi_wp2_with (refine ⟨trivial, ?_⟩; gi_at_call 97; (with_reducible refine (CallsIn.inRound lp (callsIn_wide.2 (CT.out _ (by (repeat' (first | with_reducible exact bl_refl _ | with_reducible assumption | with_reducible refine bl_alloc ?_ _ | with_reducible refine bl_set ?_ ?_ _ | with_reducible refine bl_drewN ?_ _ | with_reducible refine bl_drew ?_ | with_reducible refine bl_call (by assumption) ?_)); (all_goals (first | omega | (simp; done) | (simp; omega)))) _))).mono ?_); rintro e w' ⟨rfl, rfl⟩)
        exact ⟨(KeepsOthers.setCell _ _ _).from _, (Below.refl _ _).setCell (p := ⟨w.heap.size + 1, 0, none⟩) (show w.heap.size ≤ w.heap.size + 1 by omega) _, ⟨by simp [go_sem, c3], ⟨by rw [M1.out]; simp [go_sem, c8], by simp [go_sem, f8]⟩, ⟨by rw [M2.out]; simp [go_sem, c9], by simp [go_sem, f9]⟩⟩, bl_set hB (show w.heap.size ≤ w.heap.size + 1 by omega) _⟩
      · have M2 := hide (Y2.out e2)
        clear Y1 N1 Y2 N2
        gi_wp2_with (refine ⟨trivial, ?_⟩; gi_at_call 97; (with_reducible refine (CallsIn.inRound lp (callsIn_wide.2 (CT.out _ (by (repeat' (first | with_reducible exact bl_refl _ | with_reducible assumption | with_reducible refine bl_alloc ?_ _ | with_reducible refine bl_set ?_ ?_ _ | with_reducible refine bl_drewN ?_ _ | with_reducible refine bl_drew ?_ | with_reducible refine bl_call (by assumption) ?_)); (all_goals (first | omega | (simp; done) | (simp; omega)))) _))).mono ?_); rintro e w' ⟨rfl, rfl⟩)
        exact ⟨((KeepsOthers.setCell _ _ _).trans (KeepsOthers.setCell _ _ _)).from _, ((Below.refl _ _).setCell (p := ⟨w.heap.size + 1, 0, none⟩) (show w.heap.size ≤ w.heap.size + 1 by omega) _).setCell (p := ⟨w.heap.size + 1 + 1, 0, none⟩) (show w.heap.size ≤ w.heap.size + 1 + 1 by omega) _, ⟨by simp [go_sem, c3], ⟨by rw [M1.out]; simp [go_sem, c8], by simp [go_sem, f8]⟩, ⟨by rw [M2.out]; simp [go_sem, c9], by simp [go_sem, f9]⟩⟩, bl_set (bl_set hB (show w.heap.size ≤ w.heap.size + 1 by omega) _) (show w.heap.size ≤ w.heap.size + 1 + 1 by omega) _⟩
  case done =>
    rintro D W hD ⟨⟨c3, ⟨c8, f8⟩, ⟨c9, f9⟩⟩, hB⟩ hK
    obtain ⟨p1, hp1⟩ : ∃ p, p = cwN l (clF E) (svL l l.length).length := ⟨_, rfl⟩
    obtain ⟨p2, hp2⟩ : ∃ p, p = cwN l (wiF E) (svL l l.length).length := ⟨_, rfl⟩
    rw [← hp1] at c8
    rw [← hp2] at c9
    have HP1 := hide hp1
    have HP2 := hide hp2
    clear hp1 hp2
    gi_wp2
    first | (gi_region_with fail) | fail
    all_goals
      gi_wp2
      have hK' : W.drew.heap[D]? = some (.deferred (some [])) := hK
      refine ⟨by simp, .inl ⟨_, _, rfl, run_takeDeferred hK', ?_⟩⟩
      refine ⟨.tuple #[.int .i64 p1, .int .i64 p2], by simp [results, Try.results43, go_sem], by rw [← HP1.out, ← HP2.out], (bl_drew hB).trans (belowK_b (w := W0) (by omega) _ D _ _ hD hK' rfl rfl)⟩
end Go.Proofs.Ytlfhfbeacleggaa
