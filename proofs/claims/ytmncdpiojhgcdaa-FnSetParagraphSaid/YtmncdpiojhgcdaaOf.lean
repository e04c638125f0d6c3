/- The overfull lines, in the program. -/
import Derived.Test.YtmncdpiojhgcdaaFf
import Derived.Test.YtmncdpiojhgcdaaSqN
import Derived.Test.YtmncdpiojhgcdaaCb
namespace Go.Proofs.Ytmncdpiojhgcdaa
open Go.ChangeShapes Go.WideShapes Go.ChangeAt Go.RowKit Go.Shelf
set_option linter.unusedVariables false
set_option linter.unusedSimpArgs false
attribute [local go_sem] Oper.semAt_some

/-- The overfull ones among the first k lines. -/
noncomputable def ovN (L : List It) (d : Int) (E : List Int) : Nat → List Int
  | 0 => []
  | k + 1 => if (ftL L (frm (-1) E k) (ng E k) d).1 = 4 then ovN L d E k ++ [(k : Int)] else ovN L d E k
theorem ovN_len (L : List It) (d : Int) (E : List Int) : ∀ k, (ovN L d E k).length ≤ k
  | 0 => Nat.le_refl _
  | k + 1 => by
    have := ovN_len L d E k
    simp only [ovN]
    split
    · simp; omega
    · omega
theorem ovN_yes {L : List It} {d : Int} {E : List Int} {k : Nat} (h : (ftL L (frm (-1) E k) (ng E k) d).1 = 4) : ovN L d E (k + 1) = ovN L d E k ++ [(k : Int)] := by
  simp only [ovN]; rw [if_pos h]
theorem ovN_no {L : List It} {d : Int} {E : List Int} {k : Nat} (h : (ftL L (frm (-1) E k) (ng E k) d).1 ≠ 4) : ovN L d E (k + 1) = ovN L d E k := by
  simp only [ovN]; rw [if_neg h]
/-- What OverfullLines answers. -/
noncomputable def ovO (L : List It) (d : Int) (E : List Int) : List Int := if vbO L E && inB d 1 10000 then ovN L d E E.length else []
theorem ovO_no {L : List It} {d : Int} {E : List Int} (h : (vbO L E && inB d 1 10000) = false) : ovO L d E = [] := by simp [ovO, h]
theorem ovO_yes {L : List It} {d : Int} {E : List Int} (h : (vbO L E && inB d 1 10000) = true) : ovO L d E = ovN L d E E.length := by simp [ovO, h]
theorem piecesOf_o (w : World) (s : Int) (A : Option Addr) (n c : Nat) :
    Calls Try.prog 138 #[.int .i64 s, .slice A n c] w fun e w' => e = .returned (.func (.func 151) #[] #[.pointer (some ⟨w.heap.size, 0, none⟩), .pointer (some ⟨w.heap.size + 1, 0, none⟩)]) ∧ (w.alloc (.cells #[.int .i64 s] 3)).alloc (.cells #[.slice A n c] 30) = w' := by
  go_enter Try.func138, Try.ntmps138
  go_wp2
  go_ret
  exact ⟨rfl, rfl⟩
theorem linesOf_i (w : World) (A : Option Addr) (n c : Nat) :
    Calls Try.prog 93 #[.slice A n c] w fun e w' => e = .returned (.func (.func 151) #[] #[.pointer (some ⟨w.heap.size, 0, none⟩), .pointer (some ⟨w.heap.size + 1, 0, none⟩)]) ∧ (w.alloc (.cells #[.int .i64 (-1)] 3)).alloc (.cells #[.slice A n c] 30) = w' := by
  go_enter Try.func93, Try.ntmps93
  go_wp2_with fail
  (with_reducible refine (piecesOf_o _ _ _ _ _).mono ?_)
  rintro e w' ⟨rfl, rfl⟩
  go_wp2
  go_ret
  exact ⟨rfl, rfl⟩
set_option maxRecDepth 100000 in
set_option maxHeartbeats 4000000 in
theorem OverfullLines_i (w : World) (A B : Option Addr) (n c m c' : Nat) (L : List It) (E : List Int) (d : Int) (h : TL w A n L) (hn : n ≤ 1048576) (hE : IL w B m E) (hm : m ≤ 1048576) (hwf : okW E) :
    Calls Try.prog 57 #[.slice A n c, .int .i64 d, .slice B m c'] w (RetL w (ovO L d E)) := by
  have ME := hide (measure_i (w.alloc (.cells #[.int .i64 d] 3)) A n c L (h.alloc _) (by omega))
  have HB0 := hide (bl_alloc (bl_refl w) (.cells #[.int .i64 d] 3))
  have kd0 : (w.alloc (.cells #[.int .i64 d] 3)).cell? ⟨w.heap.size, 0, none⟩ = some (.int .i64 d) := by simp [go_sem]
  obtain rfl : n = L.length := h.1
  obtain rfl : m = E.length := hE.1
  have HE := hide hE
  have HDV := fun (hok : isOk L = true) => hide (fun (u : World) (B' gp g c1 gs gf gb : Nat) (hu : PS u B' gp g c1 gs gf gb L) (hb : Below w.heap.size w u) => divides_i u L hu (isOk_iff.1 hok).1 (isOk_iff.1 hok).2.1 B E.length c' E (hE.below hb) hm hwf)
  clear h hE
  cases hok : isOk L
  · have O := hide (ovO_no (L := L) (d := d) (E := E) (by rw [vbO_eq, cbV_no (by rw [hok]; rfl)]; rfl))
    rw [hok] at ME
    clear hok HDV
    go_enter Try.func57, Try.ntmps57
    go_wp2_with fail
    (with_reducible refine ME.out.mono ?_)
    rintro e u1 ⟨v, rfl, hv, hv0, hb⟩
    obtain rfl := hv0 (by trivial)
    have HB1 := hide (bl_call hb HB0.out)
    have kd := keep_cell hb kd0
    clear hv hv0 hb
    go_wp2
    go_ret
    exact ⟨none, 0, by rw [O.out]; rfl, by rw [O.out]; exact OL.nil _ _ _, bl_alloc HB1.out _⟩
  replace HDV := HDV hok
  cases q1 : inB d 1 10000
  · have O := hide (ovO_no (L := L) (d := d) (E := E) (by rw [q1]; simp))
    rw [hok] at ME
    clear hok
    go_enter Try.func57, Try.ntmps57
    go_wp2_with fail
    (with_reducible refine ME.out.mono ?_)
    rintro e u1 ⟨v, rfl, hv, hv0, hb⟩
    have HB1 := hide (bl_call hb HB0.out)
    obtain ⟨g, c1, gs, gf, gb, rfl, hrow, hpr⟩ := hv (by trivial)
    have kd := keep_alloc (keep_cell hb kd0) (.cells #[.slice (some ⟨g, 0, none⟩) L.length c1, .slice (some ⟨gs, 0, none⟩) (L.length + 1) (L.length + 1), .slice (some ⟨gf, 0, none⟩) (L.length + 1) (L.length + 1), .slice (some ⟨gb, 0, none⟩) (L.length + 1) (L.length + 1)] 82)
    clear hv hv0 hb hrow hpr
    go_wp2_with (go_at_call 91; refine (validWidth_ii _ _).mono ?_; rintro e w' ⟨rfl, rfl⟩)
    go_ret
    exact ⟨none, 0, by rw [O.out]; rfl, by rw [O.out]; exact OL.nil _ _ _, bl_alloc HB1.out _⟩
  have VE : vbO L E = (ptO L E (fun _ a b => (0, hasL L a b))).2 := by rw [vbO_eq, cbV_ok hok]
  rw [← VE] at HDV
  have HFI := hide (fun (u : World) (B' gp g c1 gs gf gb : Nat) (hu : PS u B' gp g c1 gs gf gb L) (x y : Int) (wx : -9223372036854775808 ≤ x ∧ x ≤ 9223372036854775807) (wy : -9223372036854775808 ≤ y ∧ y ≤ 9223372036854775807) => fit_i u L hu (isOk_iff.1 hok).1 (isOk_iff.1 hok).2.1 x y d wx wy)
  rw [hok] at ME
  cases q2 : vbO L E
  · have O := hide (ovO_no (L := L) (d := d) (E := E) (by rw [q2]; rfl))
    rw [q2] at HDV
    clear hok VE HFI
    go_enter Try.func57, Try.ntmps57
    go_wp2_with fail
    (with_reducible refine ME.out.mono ?_)
    rintro e u1 ⟨v, rfl, hv, hv0, hb⟩
    have HB1 := hide (bl_call hb HB0.out)
    obtain ⟨g, c1, gs, gf, gb, rfl, hrow, hpr⟩ := hv (by trivial)
    have kd := keep_alloc (keep_cell hb kd0) (.cells #[.slice (some ⟨g, 0, none⟩) L.length c1, .slice (some ⟨gs, 0, none⟩) (L.length + 1) (L.length + 1), .slice (some ⟨gf, 0, none⟩) (L.length + 1) (L.length + 1), .slice (some ⟨gb, 0, none⟩) (L.length + 1) (L.length + 1)] 82)
    have HPS := hide (ps_made hrow hpr)
    have HB1 := hide (bl_alloc HB1.out (.cells #[.slice (some ⟨g, 0, none⟩) L.length c1, .slice (some ⟨gs, 0, none⟩) (L.length + 1) (L.length + 1), .slice (some ⟨gf, 0, none⟩) (L.length + 1) (L.length + 1), .slice (some ⟨gb, 0, none⟩) (L.length + 1) (L.length + 1)] 82))
    clear hv hv0 hb hrow hpr
    have k0 := HPS.out.k0
    have k1 := HPS.out.k1
    have k2 := HPS.out.k2
    have k3 := HPS.out.k3
    go_wp2_with (go_at_call 91; refine (validWidth_ii _ _).mono ?_; rintro e w' ⟨rfl, rfl⟩)
    (with_reducible refine (HDV.out _ _ _ _ _ _ _ _ HPS.out HB1.out).mono ?_)
    rintro e u2 ⟨rfl, hb⟩
    have HB2 := hide (bl_call hb HB1.out)
    clear hb k0 k1 k2 k3
    go_wp2
    go_ret
    exact ⟨none, 0, by rw [O.out]; rfl, by rw [O.out]; exact OL.nil _ _ _, HB2.out⟩
  have O := hide (ovO_yes (L := L) (d := d) (E := E) (by rw [q1, q2]; rfl))
  rw [q2] at HDV
  rw [O.out]
  have HWF := hide hwf
  obtain ⟨i0, hi0, jz0, jz1, jz2⟩ := info_parts int_info
  clear hok O VE q2 hwf
  refine (callsIn_wide (n := 5)).1 ?_
  refine callsIn_of_wp_marks Try.func57 rfl trivial ?_ rfl
  simp only [Try.ntmps57, List.size_toArray, List.length_cons, List.length_nil, Nat.reduceAdd, Nat.reduceSub, Array.replicate_succ, Array.replicate_zero, List.push_toArray, List.append_toArray, List.nil_append, List.cons_append]
  gi_wp2_with (first | (refine ⟨trivial, ?_⟩; gi_at_call 67; (with_reducible refine (callsIn_wide.2 ME.out).mono ?_); rintro e u1 ⟨v, rfl, hv, hv0, hb⟩; obtain ⟨g, c1, gs, gf, gb, rfl, hrow, hpr⟩ := hv (by trivial); have HPS := hide (ps_made hrow hpr); have HB1 := hide (bl_alloc (bl_call hb HB0.out) (.cells #[.slice (some ⟨g, 0, none⟩) L.length c1, .slice (some ⟨gs, 0, none⟩) (L.length + 1) (L.length + 1), .slice (some ⟨gf, 0, none⟩) (L.length + 1) (L.length + 1), .slice (some ⟨gb, 0, none⟩) (L.length + 1) (L.length + 1)] 82)); have kd := keep_alloc (keep_cell hb kd0) (.cells #[.slice (some ⟨g, 0, none⟩) L.length c1, .slice (some ⟨gs, 0, none⟩) (L.length + 1) (L.length + 1), .slice (some ⟨gf, 0, none⟩) (L.length + 1) (L.length + 1), .slice (some ⟨gb, 0, none⟩) (L.length + 1) (L.length + 1)] 82); clear hv hv0 hb hrow hpr; have k0 := HPS.out.k0; have k1 := HPS.out.k1; have k2 := HPS.out.k2; have k3 := HPS.out.k3) | (refine ⟨trivial, ?_⟩; gi_at_call 91; (with_reducible refine (callsIn_wide.2 (validWidth_ii _ _)).mono ?_); rintro e w' ⟨rfl, rfl⟩) | (refine ⟨trivial, ?_⟩; gi_at_call 92; (with_reducible refine (callsIn_wide.2 (HDV.out _ _ _ _ _ _ _ _ HPS.out HB1.out)).mono ?_); rintro e u2 ⟨rfl, hb⟩; have HB2 := hide (bl_call hb HB1.out); have HPS2 := hide (HPS.out.below hb); have kd := keep_cell hb kd; clear hb k0 k1 k2 k3; have k0 := HPS2.out.k0; have k1 := HPS2.out.k1; have k2 := HPS2.out.k2; have k3 := HPS2.out.k3) | (refine ⟨trivial, ?_⟩; gi_at_call 93; (with_reducible refine (callsIn_wide.2 (linesOf_i _ _ _ _)).mono ?_); rintro e w' ⟨rfl, rfl⟩))
  have HEW := hide (HE.out.below (bl_alloc (bl_alloc (bl_alloc (bl_alloc HB2.out (.cells #[.slice none 0 0] 30)) (.cells #[.int .i64 0] 3)) (.cells #[.int .i64 (-1)] 3)) (.cells #[.slice B E.length c'] 30)))
  have c9 : ((((u2.alloc (.cells #[.slice none 0 0] 30)).alloc (.cells #[.int .i64 0] 3)).alloc (.cells #[.int .i64 (-1)] 3)).alloc (.cells #[.slice B E.length c'] 30)).cell? ⟨u2.heap.size, 0, none⟩ = some (.slice none 0 0) := by simp [go_sem]
  have f9 : ((((u2.alloc (.cells #[.slice none 0 0] 30)).alloc (.cells #[.int .i64 0] 3)).alloc (.cells #[.int .i64 (-1)] 3)).alloc (.cells #[.slice B E.length c'] 30)).frozen? ⟨u2.heap.size, 0, none⟩ = false := by simp [go_sem]
  have c10 : ((((u2.alloc (.cells #[.slice none 0 0] 30)).alloc (.cells #[.int .i64 0] 3)).alloc (.cells #[.int .i64 (-1)] 3)).alloc (.cells #[.slice B E.length c'] 30)).cell? ⟨u2.heap.size + 1, 0, none⟩ = some (.int .i64 0) := by simp [go_sem]
  have f10 : ((((u2.alloc (.cells #[.slice none 0 0] 30)).alloc (.cells #[.int .i64 0] 3)).alloc (.cells #[.int .i64 (-1)] 3)).alloc (.cells #[.slice B E.length c'] 30)).frozen? ⟨u2.heap.size + 1, 0, none⟩ = false := by simp [go_sem]
  have b1 : ((((u2.alloc (.cells #[.slice none 0 0] 30)).alloc (.cells #[.int .i64 0] 3)).alloc (.cells #[.int .i64 (-1)] 3)).alloc (.cells #[.slice B E.length c'] 30)).cell? ⟨u2.heap.size + 1 + 1, 0, none⟩ = some (.int .i64 (-1)) := by simp [go_sem]
  have b2 : ((((u2.alloc (.cells #[.slice none 0 0] 30)).alloc (.cells #[.int .i64 0] 3)).alloc (.cells #[.int .i64 (-1)] 3)).alloc (.cells #[.slice B E.length c'] 30)).cell? ⟨u2.heap.size + 1 + 1 + 1, 0, none⟩ = some (.slice B E.length c') := by simp [go_sem]
  have hz0 : ((((u2.alloc (.cells #[.slice none 0 0] 30)).alloc (.cells #[.int .i64 0] 3)).alloc (.cells #[.int .i64 (-1)] 3)).alloc (.cells #[.slice B E.length c'] 30)).heap.size = u2.heap.size + 4 := by simp
  have hBu : Below u2.heap.size u2 ((((u2.alloc (.cells #[.slice none 0 0] 30)).alloc (.cells #[.int .i64 0] 3)).alloc (.cells #[.int .i64 (-1)] 3)).alloc (.cells #[.slice B E.length c'] 30)) := bl_alloc (bl_alloc (bl_alloc (bl_alloc (bl_refl u2) _) _) _) _
  have hzw : w.heap.size ≤ u2.heap.size := HB2.out.size
  have hBB : Below w.heap.size w ((((u2.alloc (.cells #[.slice none 0 0] 30)).alloc (.cells #[.int .i64 0] 3)).alloc (.cells #[.int .i64 (-1)] 3)).alloc (.cells #[.slice B E.length c'] 30)) := bl_alloc (bl_alloc (bl_alloc (bl_alloc HB2.out _) _) _) _
  obtain ⟨W0, hW0⟩ : ∃ W0, W0 = ((((u2.alloc (.cells #[.slice none 0 0] 30)).alloc (.cells #[.int .i64 0] 3)).alloc (.cells #[.int .i64 (-1)] 3)).alloc (.cells #[.slice B E.length c'] 30)) := ⟨_, rfl⟩
  rw [← hW0] at HEW c9 f9 c10 f10 b1 b2 hz0 hBu hBB ⊢
  have HBU := hide hBu
  have HBB := hide hBB
  have KD := hide kd
  have LEN := hide (fun k => ovN_len L d E k)
  clear hW0 k0 k1 k2 k3 kd kd0 HPS HB1 ME hBu hBB HDV HB0
  refine range_seq (F := Fence.wide) (n := 5) rfl (by decide) (gf := 151) (lb := #[.pointer (some ⟨u2.heap.size + 1 + 1, 0, none⟩), .pointer (some ⟨u2.heap.size + 1 + 1 + 1, 0, none⟩)]) rfl trivial (enters_of Try.func151 (by kernel_rfl) rfl)
    (pieces_seq Fence.wide 4 trivial rfl (by decide) (u2.heap.size + 1 + 1) (u2.heap.size + 1 + 1 + 1) u2.heap.size (-1) B c' E (by omega) W0 (by omega) (by omega) (by omega) b1 b2 (fun j hj => by
      obtain ⟨b, o, e, hb, _⟩ := HE.out.at_ hj
      obtain ⟨b', o', e', _, hc⟩ := HEW.out.at_ hj
      rw [e] at e'
      injection e' with e'
      cases e'
      exact ⟨b, o, e, by omega, hc⟩)) (fun h k => h.trans k) (belowK_b (by omega)) (Below.refl _ _) (fun _ => rfl)
    (fun k W => ((∃ A' m cc, W.cell? ⟨u2.heap.size, 0, none⟩ = some (.slice A' m cc) ∧ W.frozen? ⟨u2.heap.size, 0, none⟩ = false ∧ OL W 3 W0.heap.size A' cc (ovN L d E k) ∧ m = (ovN L d E k).length ∧ W0.heap.size ≤ W.heap.size) ∧ W.cell? ⟨u2.heap.size + 1, 0, none⟩ = some (.int .i64 k) ∧ W.frozen? ⟨u2.heap.size + 1, 0, none⟩ = false) ∧ Below u2.heap.size W0 W)
    (OwnFrom.and (Own.from (fun s' A' B' row hs hg hr => by
      obtain ⟨⟨A2, m2, c2, h1, h2, h3, h4, h5⟩, h6, h7⟩ := hs
      exact ⟨⟨A2, m2, c2, cell_kept h1 hg hr, (frozen_kept h1 hg hr).trans h2, h3.keptN hg hr, h4, Nat.le_trans h5 hg.size⟩, cell_kept h6 hg hr, (frozen_kept h6 hg hr).trans h7⟩) _) (ownFrom_below (by omega) (by omega)))
    ⟨⟨⟨none, 0, 0, c9, f9, OL.nil _ _ _, rfl, Nat.le_refl _⟩, c10, f10⟩, Below.refl _ _⟩
    (fun k => { tmps := #[.slice A L.length c, .int .i64 d, .slice B E.length c', undef, .pointer (some ⟨w.heap.size, 0, none⟩), undef, .slice none 0 0, .pointer (some ⟨u1.heap.size, 0, none⟩), .bool true, .pointer (some ⟨u2.heap.size, 0, none⟩), .pointer (some ⟨u2.heap.size + 1, 0, none⟩), .int .i64 (frm (-1) E k), .int .i64 (ng E k), undef, undef, .tuple #[.agg #[.slice (some ⟨g, 0, none⟩) L.length c1, .slice (some ⟨gs, 0, none⟩) (L.length + 1) (L.length + 1), .slice (some ⟨gf, 0, none⟩) (L.length + 1) (L.length + 1), .slice (some ⟨gb, 0, none⟩) (L.length + 1) (L.length + 1)], .bool true], .slice A L.length c, .tuple #[.agg #[.slice (some ⟨g, 0, none⟩) L.length c1, .slice (some ⟨gs, 0, none⟩) (L.length + 1) (L.length + 1), .slice (some ⟨gf, 0, none⟩) (L.length + 1) (L.length + 1), .slice (some ⟨gb, 0, none⟩) (L.length + 1) (L.length + 1)], .bool true], .agg #[.slice (some ⟨g, 0, none⟩) L.length c1, .slice (some ⟨gs, 0, none⟩) (L.length + 1) (L.length + 1), .slice (some ⟨gf, 0, none⟩) (L.length + 1) (L.length + 1), .slice (some ⟨gb, 0, none⟩) (L.length + 1) (L.length + 1)], .bool true, .bool true, .bool false, .bool false, .int .i64 d, .bool true, .bool false, .bool false, .bool false, .agg #[.slice (some ⟨g, 0, none⟩) L.length c1, .slice (some ⟨gs, 0, none⟩) (L.length + 1) (L.length + 1), .slice (some ⟨gf, 0, none⟩) (L.length + 1) (L.length + 1), .slice (some ⟨gb, 0, none⟩) (L.length + 1) (L.length + 1)], .slice B E.length c', .bool true, .bool false, .bool false, .slice B E.length c', .func (.func 151) #[] #[.pointer (some ⟨u2.heap.size + 1 + 1, 0, none⟩), .pointer (some ⟨u2.heap.size + 1 + 1 + 1, 0, none⟩)], .int .i64 (frm (-1) E k), .int .i64 (ng E k), undef, undef, undef, undef, undef, undef, undef, undef, undef, undef, undef, undef, undef, undef, undef, undef, undef], defers := [] }) ?assign ?body ?done
  case assign =>
    intro lp k W K hk hK
    gi_wp2
    exact hK
  case body =>
    rintro lp k W hk ⟨⟨⟨A2, m, cc, c9, f9, hol, hm, hzW⟩, c10, f10⟩, hB⟩
    have hkE : k < E.length := hk
    have hd : (1 : Nat) ≤ 5 - 1 - 1 := by decide
    have wk : IntKind.i64.wrap ((k : Int) + 1) = (k : Int) + 1 := IntWalk.i64_in _ (by omega)
    have HM := hide hm
    have HOL := hide hol
    have HBW := hide hB
    have HP := hide (HPS2.out.below (HBU.out.trans hB))
    have k0 := HP.out.k0
    have k1 := HP.out.k1
    have k2 := HP.out.k2
    have k3 := HP.out.k3
    have kd := keep_cell (HBU.out.trans hB) KD.out
    have hl9 := World.block_lt_of_cell? W _ c9
    have hl10 := World.block_lt_of_cell? W _ c10
    dsimp only at hl9 hl10
    have hlk := LEN.out k
    have hmk : m ≤ k := by omega
    have SY := hide (fun h => ovN_yes (L := L) (d := d) (E := E) (k := k) h)
    have SN := hide (fun h => ovN_no (L := L) (d := d) (E := E) (k := k) h)
    have FI := HFI.out W _ _ _ _ _ _ _ HP.out (frm (-1) E k) (ng E k) (frm_wf HWF.out (by omega)) (HWF.out k hkE)
    obtain ⟨r1, hr1⟩ : ∃ r, r = (ftL L (frm (-1) E k) (ng E k) d).1 := ⟨_, rfl⟩
    obtain ⟨r2, hr2⟩ : ∃ r, r = (ftL L (frm (-1) E k) (ng E k) d).2 := ⟨_, rfl⟩
    rw [← hr1] at SY SN FI
    rw [← hr2] at FI
    obtain ⟨x, hx⟩ : ∃ r, r = frm (-1) E k := ⟨_, rfl⟩
    obtain ⟨y, hy⟩ : ∃ r, r = ng E k := ⟨_, rfl⟩
    rw [← hx, ← hy] at FI ⊢
    have HFI2 := hide FI
    clear FI hr1 hr2 hx hy hm hol hB hlk
    rcases (by omega : r1 = 4 ∨ r1 ≠ 4) with rfl | q
    · have SY1 := hide (SY.out rfl)
      clear SY SN
      gi_wp2_with (first | (refine ⟨trivial, ?_⟩; gi_at_call 103; (with_reducible refine (CallsIn.inRound lp (callsIn_wide.2 HFI2.out)).mono ?_); rintro e u3 ⟨rfl, hb⟩; have c9 := keep_cell hb c9; have f9 := (hb.frozen (p := ⟨u2.heap.size, 0, none⟩) hl9).trans f9; have c10 := keep_cell hb c10; have f10 := (hb.frozen (p := ⟨u2.heap.size + 1, 0, none⟩) hl10).trans f10; have HB3 := hide hb; have HOL3 := hide (HOL.out.below hb); have hz3 := Nat.le_trans hzW hb.size; clear hb) | (gi_at_builtin; go_loud (refine wpListIn_append_int rfl (.tmp 47) (.tmp 49) _ rfl 3 i0 Try.underlying30 hi0 jz0 jz1 jz2 W0.heap.size A2 cc m (ovN L d E k) rfl HM.out (HOL3.out.alloc _) u3.heap.size (k : Int) rfl (by simp) (by omega) (by simp; omega) ?_); intro A' c2 w' hol' hb' hg'; have bg := box_grown (HOL3.out.alloc _) HM.out hg' (show u2.heap.size < W0.heap.size by omega) (keep_alloc c9 _); have bh := box_grown (HOL3.out.alloc _) HM.out hg' (show u2.heap.size + 1 < W0.heap.size by omega) (keep_alloc c10 _); have c9' := bg.1; have c10' := bh.1; have f9' := bg.2.trans ((World.frozen?_alloc_past (.cells #[.int .i64 (k : Int)] 3) u2.heap.size 0 (show u2.heap.size < u3.heap.size by omega)).trans f9); have f10' := bh.2.trans ((World.frozen?_alloc_past (.cells #[.int .i64 (k : Int)] 3) (u2.heap.size + 1) 0 (show u2.heap.size + 1 < u3.heap.size by omega)).trans f10); have HHB := hide hb'; have HHG := hide hg'; have HHO := hide hol'; have hzz := hg'.size; simp at hzz; clear bg bh hb' hg' hol'))
      have hgg : (u3.alloc (.cells #[.int .i64 (k : Int)] 3)).grownBy w' (Value.slice A2 (ovN L d E k).length cc).ownBlock := by rw [← HM.out]; exact HHG.out
      have hBX : Below u2.heap.size W w' := ((HB3.out.mono (by omega)).trans ((bl_alloc (bl_refl u3) _).mono (by omega))).trans (HHB.out.mono (by omega))
      exact ⟨(((((ko_below HB3.out).trans (ko_alloc (ko_refl u3) _)).trans (ko_grownL (HOL3.out.alloc _) hgg)).trans (KeepsOthers.setCell _ _ _)).trans (KeepsOthers.setCell _ _ _)).from _, (hBX.setCell (p := ⟨u2.heap.size, 0, none⟩) (Nat.le_refl _) _).setCell (p := ⟨u2.heap.size + 1, 0, none⟩) (Nat.le_succ _) _, ⟨⟨A', m + 1, c2, by simp [go_sem, c9', c10'], by simp [go_sem, f9'], by rw [SY1.out]; exact (HHO.out.box (by omega) _).box (by omega) _, by rw [SY1.out, List.length_append, ← HM.out]; rfl, by simp; omega⟩, by simp [go_sem, c10', wk], by simp [go_sem, f10']⟩, HBW.out.trans ((hBX.setCell (p := ⟨u2.heap.size, 0, none⟩) (Nat.le_refl _) _).setCell (p := ⟨u2.heap.size + 1, 0, none⟩) (Nat.le_succ _) _)⟩
    · have SN1 := hide (SN.out q)
      have g1 : (r1 == 4) = false := beq_eq_false_iff_ne.2 q
      clear SY SN q
      gi_wp2_with (refine ⟨trivial, ?_⟩; gi_at_call 103; (with_reducible refine (CallsIn.inRound lp (callsIn_wide.2 HFI2.out)).mono ?_); rintro e u3 ⟨rfl, hb⟩; have c9 := keep_cell hb c9; have f9 := (hb.frozen (p := ⟨u2.heap.size, 0, none⟩) hl9).trans f9; have c10 := keep_cell hb c10; have f10 := (hb.frozen (p := ⟨u2.heap.size + 1, 0, none⟩) hl10).trans f10; have HB3 := hide hb; have HOL3 := hide (HOL.out.below hb); have hz3 := Nat.le_trans hzW hb.size; clear hb)
      have hBX : Below u2.heap.size W u3 := HB3.out.mono (by omega)
      exact ⟨((ko_below HB3.out).trans (KeepsOthers.setCell _ _ _)).from _, hBX.setCell (p := ⟨u2.heap.size + 1, 0, none⟩) (Nat.le_succ _) _, ⟨⟨A2, m, cc, by simp [go_sem, c9], by simp [go_sem, f9], by rw [SN1.out]; exact HOL3.out.box (by omega) _, by rw [SN1.out]; exact HM.out, by simp; omega⟩, by simp [go_sem, c10, wk], by simp [go_sem, f10]⟩, HBW.out.trans (hBX.setCell (p := ⟨u2.heap.size + 1, 0, none⟩) (Nat.le_succ _) _)⟩
  case done =>
    rintro D W hD ⟨⟨⟨A2, m, cc, c9, f9, hol, hm, hzW⟩, c10, f10⟩, hB⟩ hK
    have HM := hide hm
    clear hm
    gi_wp2
    refine ⟨by simp, .inl ⟨_, _, rfl, run_takeDeferred hK, ?_⟩⟩
    have hol' : OL _ 3 W0.heap.size A2 cc (ovN L d E E.length) := hol.keptN (grownBy_putObj' W D (.deferred none)) (fun r e => by cases e; exact ⟨_, hK, rfl⟩)
    refine ⟨.slice A2 m cc, by simp [results, Try.results57, go_sem], ?_⟩
    exact ⟨A2, cc, by rw [← HM.out], hol'.more (B' := w.heap.size) (by omega), (HBB.out.trans (hB.mono hzw)).trans (belowK_b (n₀ := w.heap.size) (w := W0) (by omega) _ D _ _ hD hK rfl rfl)⟩
end Go.Proofs.Ytmncdpiojhgcdaa
