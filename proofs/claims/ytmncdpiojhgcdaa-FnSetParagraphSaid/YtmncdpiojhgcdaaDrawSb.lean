/- Drawn breaks. -/
import Derived.Test.YtmncdpiojhgcdaaBbS
import Derived.Test.YtmncdpiojhgcdaaFfS
import Derived.Test.YtmncdpiojhgcdaaDrawBb
namespace Go.Proofs.Ytmncdpiojhgcdaa
open Go.ChangeShapes Go.WideShapes Go.ChangeAt Go.RowKit
set_option linter.unusedVariables false
set_option linter.unusedSimpArgs false

theorem okW_nil : okW [] := fun k hk => by simp at hk
theorem okW_snoc {E : List Int} {x : Int} (h : okW E) (hx : -9223372036854775808 ≤ x ∧ x ≤ 9223372036854775807) : okW (E ++ [x]) := fun k hk => by
  rw [List.length_append] at hk
  simp at hk
  rcases (by omega : k < E.length ∨ k = E.length) with e | e
  · rw [ng_appB e]; exact h k e
  · subst e; rw [ng_lastB]; exact hx
theorem brO_at {L : List It} {j : Nat} (hj : j < (brO L).length) : ∃ q : Nat, ng (brO L) j = (q : Int) ∧ q < L.length := by
  cases hok : isOk L
  · rw [brO_no hok] at hj; simp at hj
  · have hm := ng_mem hj
    obtain ⟨z, hz⟩ : ∃ z, z = ng (brO L) j := ⟨_, rfl⟩
    rw [← hz] at hm ⊢
    rw [brO_yes hok] at hm
    have := brTo_mem hm
    exact ⟨z.toNat, by omega, by omega⟩
theorem brO_len2 (L : List It) : (brO L).length ≤ L.length := by
  cases hok : isOk L
  · rw [brO_no hok]; simp
  · rw [brO_yes hok]; exact brTo_len L _
theorem own_blk2 {w w' : World} {B n size : Nat} {e : TypeId} {v : Value} {xs : List Value} (h : w.ownsRow B e size v n xs) (hk : ∀ k, v.ownBlock = some k → w'.heap[k]? = w.heap[k]?) : w'.ownsRow B e size v n xs := by
  refine ⟨h.1, ?_⟩
  rcases h.2 with h0 | ⟨g, cap, cur, h1, h2, h3, h4⟩
  · exact .inl h0
  · refine .inr ⟨g, cap, cur, h1, h2, ?_, h4⟩
    rw [hk g (by rw [h1]; rfl)]
    exact h3
set_option maxRecDepth 8000 in
set_option maxHeartbeats 4000000 in
theorem someBreaks_any (w : World) (B g N : Nat) (h : RD w B g N) (hN : N ≤ 1000000) (hB : B ≤ w.heap.size) (A : Option Addr) (c Bl : Nat) (L : List It) (hl : TO w 45 Bl A c L) (hgl : g < Bl) (hll : L.length ≤ 23) (d t : Int) :
    Calls Try.prog 77 #[.pointer (some ⟨g, 0, none⟩), .slice A L.length c, .int .i64 d, .int .i64 t] w fun e w' => ∃ (A' : Option Addr) (c' : Nat) (E : List Int), e = .returned (.slice A' E.length c') ∧ OL w' 3 w.heap.size A' c' E ∧ E.length ≤ 60 ∧ okW E ∧ RD w' B g (N + 60) ∧ w.grownBy w' (some g) := by
  have hg := h.lt
  have hgB := h.1
  obtain ⟨i0, hi0, jz0, jz1, jz2⟩ := info_parts int_info
  have BBS := bbV_len (L := L) (d := d) (t := t)
  have CB := fun (u : World) (hu : TL u A L.length L) => BestBreaks_s u A L.length c L d t hu (by omega)
  unfold RetW at CB
  obtain ⟨V, hV⟩ : ∃ V, V = bbV L d t := ⟨_, rfl⟩
  rw [← hV] at CB BBS
  obtain ⟨F, y, fo⟩ := V
  simp only at CB BBS
  obtain ⟨fl, fw⟩ := BBS
  have HFW := hide fw
  have HCB := hide CB
  have HRD := hide h
  have HL := hide hl
  have LK := hide (fun k hk => (TO.own_lt hl k hk).2)
  have hwl := ffO_wf (L := L) (d := d)
  have hfl := ffO_len (L := L) (d := d)
  have CF := fun (u : World) (hu : TL u A L.length L) => FirstFit_s u A L.length c L d hu (by omega)
  unfold RetL at CF
  obtain ⟨FF, hFF⟩ : ∃ V, V = ffO L d := ⟨_, rfl⟩
  rw [← hFF] at CF hwl hfl
  have HFF := hide hwl
  have HCF := hide CF
  have CR := fun (u : World) (hu : TL u A L.length L) => BreaksOf_s u A L.length c L hu (by omega)
  unfold RetL at CR
  have RAT := hide (fun (j : Nat) (hj : j < (brO L).length) => brO_at hj)
  have RL := brO_len2 L
  obtain ⟨R, hR⟩ : ∃ V, V = brO L := ⟨_, rfl⟩
  rw [← hR] at CR RAT RL
  have HCR := hide CR
  clear h hl fw CB hV hwl CF hFF CR hR
  go_enter Try.func77, Try.ntmps77
  go_wp2_with fail
  (with_reducible refine (HCB.out _ HL.out.reads).mono ?_)
  rintro e u1 ⟨A0, c0, rfl, ho1, hb1⟩
  have HO1 := hide ho1
  have HRD := hide (HRD.out.below hb1)
  have HL := hide (HL.out.below hb1)
  have ON := hide (on_below hb1 (on_refl w (some g)))
  have hz1 := hb1.size
  clear ho1 hb1 HCB
  have hz := hz1
  clear hz1
  cases fo
  case' false =>
    have HRD := hide (HRD.out.more (M := N + 1) (by omega) (Nat.le_refl _) (by omega))
    clear HO1 HFW
    go_wp2_with fail
  case' true =>
    go_wp2_with fail
    (with_reducible refine (pick_any _ B g _ _ HRD.out (by omega) (by omega) (by omega)).mono ?_)
    rintro e u2 ⟨k0, pk0, pk1, rfl, hrd, hon⟩
    have hz0 := hz
    have HL := hide (HL.out.readI hon hgl)
    have ON := hide (on_call hon ON.out)
    have HO1 := hide (HO1.out.read hon (by omega))
    have hz : w.heap.size ≤ u2.heap.size := Nat.le_trans hz0 hon.size
    have HRD := hide hrd
    clear hon hrd hz0
    rcases (by omega : 0 < k0 ∨ k0 = 0) with g0 | g0
    · have H1 : Hid (OL (u2.alloc (.cells #[] 3)) 3 u2.heap.size (some ⟨u2.heap.size, 0, none⟩) 0 []) := hide (by
        have := OL.lit (w := u2) (e := 3) (B := u2.heap.size) (Nat.le_refl _) [] (by simp)
        simpa using this)
      have HIL := hide (HO1.out.alloc (.cells #[] 3)).reads
      have HNC := hide HO1.out.none_capB
      have hza : (u2.alloc (.cells #[] 3)).heap.size = u2.heap.size + 1 := by simp
      go_wp2_with (at_builtin; go_loud (refine wpList_append_list rfl (.tmp 29) (.tmp 30) _ rfl 3 i0 Try.underlying30 hi0 jz0 jz1 jz2 u2.heap.size (some ⟨u2.heap.size, 0, none⟩) 0 0 [] rfl rfl H1.out A0 F.length c0 F rfl HIL.out HNC.out (by omega) (by omega) ?_); intro A5 c5 u5 ho5 hb5 hg5)
      go_ret
      have hb6 := (bl_alloc (bl_refl u2) (.cells #[] 3)).trans hb5
      exact ⟨A5, c5, F, by simp, (show OL u5 3 u2.heap.size A5 c5 F from ho5).more hz, fl, HFW.out, (HRD.out.below hb6).more (by omega) (Nat.le_refl _) (by have := hb6.size; omega), on_below hb6 ON.out⟩
    subst g0
    clear HO1 HFW
    go_wp2_with fail
  all_goals
    (with_reducible refine (pick_any _ B g _ _ HRD.out (by omega) (by omega) (by omega)).mono ?_)
    rintro e u3 ⟨k1, pk0, pk1, rfl, hrd, hon⟩
    have hz0 := hz
    have HL := hide (HL.out.readI hon hgl)
    have ON := hide (on_call hon ON.out)
    have hz : w.heap.size ≤ u3.heap.size := Nat.le_trans hz0 hon.size
    have HRD := hide hrd
    clear hon hrd hz0
    rcases (by omega : k1 = 0 ∨ k1 ≠ 0) with g1 | g1
    · subst g1
      have H1 : Hid (OL (u3.alloc (.cells #[] 3)) 3 u3.heap.size (some ⟨u3.heap.size, 0, none⟩) 0 []) := hide (by
        have := OL.lit (w := u3) (e := 3) (B := u3.heap.size) (Nat.le_refl _) [] (by simp)
        simpa using this)
      go_wp2_with fail
      (with_reducible refine (HCF.out _ (TO.alloc HL.out _).reads).mono ?_)
      rintro e u4 ⟨A4, c4, rfl, ho4, hb4⟩
      have hz4 := hb4.size
      have hza : (u3.alloc (.cells #[] 3)).heap.size = u3.heap.size + 1 := by simp
      have H1 := hide (H1.out.below hb4)
      have HIL := hide ho4.reads
      have HNC := hide ho4.none_capB
      have hb34 := hide ((bl_alloc (bl_refl u3) (.cells #[] 3)).trans (hb4.mono (by omega)))
      clear ho4 hb4
      go_wp2_with (at_builtin; go_loud (refine wpList_append_list rfl (.tmp 35) (.tmp 38) _ rfl 3 i0 Try.underlying30 hi0 jz0 jz1 jz2 u3.heap.size (some ⟨u3.heap.size, 0, none⟩) 0 0 [] rfl rfl H1.out A4 FF.length c4 FF rfl HIL.out HNC.out (by omega) (by omega) ?_); intro A5 c5 u5 ho5 hb5 hg5)
      go_ret
      have hb6 := hb34.out.trans hb5
      exact ⟨A5, c5, FF, by simp, (show OL u5 3 u3.heap.size A5 c5 FF from ho5).more hz, hfl, HFF.out, (HRD.out.below hb6).more (by omega) (Nat.le_refl _) (by have := hb6.size; omega), on_below hb6 ON.out⟩
    · have k1n : (k1 == 0) = false := beq_eq_false_iff_ne.2 g1
      have H1 : Hid (OL (u3.alloc (.cells #[] 3)) 3 w.heap.size (some ⟨u3.heap.size, 0, none⟩) 0 []) := hide (by
        have := (OL.lit (w := u3) (e := 3) (B := u3.heap.size) (Nat.le_refl _) [] (by simp)).more hz
        simpa using this)
      clear HCF HFF g1
      go_wp2_with fail
      (with_reducible refine (HCR.out _ (TO.alloc HL.out _).reads).mono ?_)
      rintro e u4 ⟨A1, c1, rfl, ho4, hb4⟩
      have H1 := hide (H1.out.below hb4)
      have hb34 := bl_call hb4 (bl_alloc (bl_refl u3) (.cells #[] 3))
      have HRD := hide ((HRD.out.below hb34).more (M := N + 2) (by omega) (Nat.le_refl _) (by have := hb34.size; omega))
      have HL := hide (HL.out.below hb34)
      have ON := hide (on_below hb34 ON.out)
      have hz4 : w.heap.size ≤ u4.heap.size := Nat.le_trans hz hb34.size
      have HO := hide (ho4.more (B' := w.heap.size) (by simp; omega))
      have NE0 : Hid (∀ k, (Value.slice (some ⟨u3.heap.size, 0, none⟩) 0 0).ownBlock = some k → (Value.slice A1 R.length c1).ownBlock ≠ some k) := hide (fun k h1 h2 => by
        have h3 : (Value.slice (some ⟨u3.heap.size, 0, none⟩) 0 0).ownBlock = some u3.heap.size := rfl
        rw [h3] at h1
        cases h1
        have := (ho4.own_lt _ h2).1
        simp at this
        omega)
      clear hb4 hb34 ho4 hz HCR
      go_wp2
      go_loopw [12, 14] (fun v i u => ∃ (p : Nat) (A2 : Option Addr) (m cc : Nat) (E : List Int), p ≤ R.length ∧ v = .slice A2 m cc ∧ i = .int .i64 p ∧ m = E.length ∧ m ≤ p ∧ okW E ∧ OL u 3 w.heap.size A2 cc E ∧ TO u 45 Bl A c L ∧ OL u 3 w.heap.size A1 c1 R ∧ (∀ k, (Value.slice A2 m cc).ownBlock = some k → (Value.slice A1 R.length c1).ownBlock ≠ some k) ∧ RD u B g (N + 2 + 2 * p) ∧ w.grownBy u (some g) ∧ w.heap.size ≤ u.heap.size) (fun _ i _ => R.length - (intOf i).toNat)
      case atStart => exact ⟨0, _, 0, 0, [], by omega, rfl, rfl, rfl, by omega, okW_nil, H1.out, HL.out, HO.out, NE0.out, HRD.out, ON.out, hz4⟩
      case round =>
        obtain ⟨p, A2, m, cc, E, hp, rfl, rfl, hm, hmp, hew, hoe, hlr, hor, hne, hrd, hon, hzw⟩ := hrel
        have HM := hide hm
        have HEW := hide hew
        have OE := hide hoe
        have HL := hide hlr
        have HO := hide hor
        have NE := hide hne
        have HRD := hide hrd
        have ON := hide hon
        clear hm hew hoe hlr hor hne hrd hon H1 NE0 hz4
        by_cases hlt : p < R.length
        · obtain ⟨gR, hA1, _⟩ := HO.out.form (by omega)
          subst hA1
          obtain ⟨q, q1, q2⟩ := RAT.out p hlt
          obtain ⟨bL, oL, hAL, _⟩ := HL.out.reads.at6 (i := q) q2
          subst hAL
          have hrN : N + 2 + 2 * p ≤ 10000000 := by omega
          go_wp2_with fail
          (with_reducible refine (pick_any _ B g _ _ HRD.out (by omega) (by omega) (by omega)).mono ?_)
          rintro e u5 ⟨k2, pk2, pk3, rfl, hrd, hon⟩
          have HL := hide (HL.out.readI hon hgl); have ON := hide (on_call hon ON.out); have OE := hide (OE.out.read hon hg); have HO := hide (HO.out.read hon hg); have hzw := Nat.le_trans hzw hon.size; have HRD := hide hrd; clear hon hrd
          rcases (by omega : k2 = 0 ∨ k2 ≠ 0) with g2 | g2
          · subst g2
            obtain ⟨bR, oR, hA1, hbl, cR⟩ := HO.out.reads.at_ hlt; injection hA1 with hA1; cases hA1; rw [q1] at cR; (try rw [Nat.zero_add] at cR)
            go_wp2_with (at_builtin; go_loud (refine wpList_append_int_at rfl (.tmp 75) (.tmp 80) _ rfl 3 i0 Try.underlying30 hi0 jz0 jz1 jz2 w.heap.size A2 cc m E rfl HM.out (OE.out.alloc _) u5.heap.size (q : Int) rfl (cell_new_at (by simp)) (by omega) (by simp; omega) ?_); intro A' c' w' hol' hb' hg' hat'); have hsz := hg'.size; have hLk := LK.out; simp at hsz; go_roundw; (case rel => exact ⟨p + 1, A', m + 1, c', E ++ [(q : Int)], by omega, rfl, by go_num, by rw [List.length_append, ← HM.out]; rfl, by omega, okW_snoc HEW.out (by omega), hol', own_blk2 HL.out (fun k hk => (hb'.block k (LK.out k hk)).trans (Below.heap_alloc u5 _ k (Nat.lt_of_lt_of_le (LK.out k hk) hzw))), (HO.out.alloc _).kept hg' (fun k h1 h2 => NE.out k h2 h1), (fun k hk h1 => by (rcases hat' with e | e); (next => exact NE.out k (e ▸ hk) h1); (next => (rw [e] at hk; cases hk; have hx9 := (HO.out.own_lt _ h1).2; simp at hx9; try omega))), (HRD.out.belowR (bl_alloc (bl_refl u5) _ |>.mono (by omega)) (by omega)).belowR hb' (by omega) |>.more (by omega) (Nat.le_refl _) (by omega), on_belowR hb' (Nat.le_refl _) (on_alloc ON.out _), by omega⟩); (case measure => simp [intOf]; omega)
          · have k2n : (k2 == 0) = false := beq_eq_false_iff_ne.2 g2
            obtain ⟨xp, hxp⟩ : ∃ x, x = (tg L q).p := ⟨_, rfl⟩
            have HXP := hide hxp
            clear hxp g2
            by_cases hla : p + 1 = R.length
            · have e1 : ((p : Int) == (R.length : Int) - 1) = true := beq_iff_eq.2 (by omega)
              have hla' : R.length ≤ p + 1 := by omega
              clear hla
              go_wp2_with fail
              (with_reducible refine (pick_any _ B g _ _ HRD.out (by omega) (by omega) (by omega)).mono ?_)
              rintro e u6 ⟨k3, pk4, pk5, rfl, hrd, hon⟩
              have HL := hide (HL.out.readI hon hgl); have ON := hide (on_call hon ON.out); have OE := hide (OE.out.read hon hg); have HO := hide (HO.out.read hon hg); have hzw := Nat.le_trans hzw hon.size; have HRD := hide hrd; clear hon hrd
              rcases (by omega : 0 < k3 ∨ k3 = 0) with g3 | g3
              · obtain ⟨bR, oR, hA1, hbl, cR⟩ := HO.out.reads.at_ hlt; injection hA1 with hA1; cases hA1; rw [q1] at cR; (try rw [Nat.zero_add] at cR)
                go_wp2_with (at_builtin; go_loud (refine wpList_append_int_at rfl (.tmp 75) (.tmp 80) _ rfl 3 i0 Try.underlying30 hi0 jz0 jz1 jz2 w.heap.size A2 cc m E rfl HM.out (OE.out.alloc _) u6.heap.size (q : Int) rfl (cell_new_at (by simp)) (by omega) (by simp; omega) ?_); intro A' c' w' hol' hb' hg' hat'); have hsz := hg'.size; have hLk := LK.out; simp at hsz; go_roundw; (case rel => exact ⟨p + 1, A', m + 1, c', E ++ [(q : Int)], by omega, rfl, by go_num, by rw [List.length_append, ← HM.out]; rfl, by omega, okW_snoc HEW.out (by omega), hol', own_blk2 HL.out (fun k hk => (hb'.block k (LK.out k hk)).trans (Below.heap_alloc u6 _ k (Nat.lt_of_lt_of_le (LK.out k hk) hzw))), (HO.out.alloc _).kept hg' (fun k h1 h2 => NE.out k h2 h1), (fun k hk h1 => by (rcases hat' with e | e); (next => exact NE.out k (e ▸ hk) h1); (next => (rw [e] at hk; cases hk; have hx9 := (HO.out.own_lt _ h1).2; simp at hx9; try omega))), (HRD.out.belowR (bl_alloc (bl_refl u6) _ |>.mono (by omega)) (by omega)).belowR hb' (by omega) |>.more (by omega) (Nat.le_refl _) (by omega), on_belowR hb' (Nat.le_refl _) (on_alloc ON.out _), by omega⟩); (case measure => simp [intOf]; omega)
              · subst g3
                obtain ⟨bR, oR, hA1, hbl, cR⟩ := HO.out.reads.at_ hlt; injection hA1 with hA1; cases hA1; rw [q1] at cR; (try rw [Nat.zero_add] at cR)
                obtain ⟨bL, oL, hAL, hbL, _, _, _, _, cp, _⟩ := HL.out.reads.at6 (i := q) q2
                injection hAL with hAL
                cases hAL
                rw [← HXP.out] at cp
                rcases (by omega : xp = -1000 ∨ xp ≠ -1000) with g4 | g4
                · subst g4
                  go_wp2_with (at_builtin; go_loud (refine wpList_append_int_at rfl (.tmp 75) (.tmp 80) _ rfl 3 i0 Try.underlying30 hi0 jz0 jz1 jz2 w.heap.size A2 cc m E rfl HM.out (OE.out.alloc _) u6.heap.size (q : Int) rfl (cell_new_at (by simp)) (by omega) (by simp; omega) ?_); intro A' c' w' hol' hb' hg' hat'); have hsz := hg'.size; have hLk := LK.out; simp at hsz; go_roundw; (case rel => exact ⟨p + 1, A', m + 1, c', E ++ [(q : Int)], by omega, rfl, by go_num, by rw [List.length_append, ← HM.out]; rfl, by omega, okW_snoc HEW.out (by omega), hol', own_blk2 HL.out (fun k hk => (hb'.block k (LK.out k hk)).trans (Below.heap_alloc u6 _ k (Nat.lt_of_lt_of_le (LK.out k hk) hzw))), (HO.out.alloc _).kept hg' (fun k h1 h2 => NE.out k h2 h1), (fun k hk h1 => by (rcases hat' with e | e); (next => exact NE.out k (e ▸ hk) h1); (next => (rw [e] at hk; cases hk; have hx9 := (HO.out.own_lt _ h1).2; simp at hx9; try omega))), (HRD.out.belowR (bl_alloc (bl_refl u6) _ |>.mono (by omega)) (by omega)).belowR hb' (by omega) |>.more (by omega) (Nat.le_refl _) (by omega), on_belowR hb' (Nat.le_refl _) (on_alloc ON.out _), by omega⟩); (case measure => simp [intOf]; omega)
                · have g5 : (xp == -1000) = false := beq_eq_false_iff_ne.2 g4
                  clear g4
                  go_wp2; go_roundw; (case rel => exact ⟨p + 1, A2, m, cc, E, by omega, rfl, by go_num, HM.out, by omega, HEW.out, OE.out, HL.out, HO.out, NE.out, HRD.out.more (by omega) (Nat.le_refl _) (by omega), ON.out, hzw⟩); (case measure => simp [intOf]; omega)
            · have e1 : ((p : Int) == (R.length : Int) - 1) = false := beq_eq_false_iff_ne.2 (by omega)
              obtain ⟨bR, oR, hA1, hbl, cR⟩ := HO.out.reads.at_ hlt; injection hA1 with hA1; cases hA1; rw [q1] at cR; (try rw [Nat.zero_add] at cR)
              obtain ⟨bL, oL, hAL, hbL, _, _, _, _, cp, _⟩ := HL.out.reads.at6 (i := q) q2
              injection hAL with hAL
              cases hAL
              rw [← HXP.out] at cp
              rcases (by omega : xp = -1000 ∨ xp ≠ -1000) with g4 | g4
              · subst g4
                go_wp2_with (at_builtin; go_loud (refine wpList_append_int_at rfl (.tmp 75) (.tmp 80) _ rfl 3 i0 Try.underlying30 hi0 jz0 jz1 jz2 w.heap.size A2 cc m E rfl HM.out (OE.out.alloc _) u5.heap.size (q : Int) rfl (cell_new_at (by simp)) (by omega) (by simp; omega) ?_); intro A' c' w' hol' hb' hg' hat'); have hsz := hg'.size; have hLk := LK.out; simp at hsz; go_roundw; (case rel => exact ⟨p + 1, A', m + 1, c', E ++ [(q : Int)], by omega, rfl, by go_num, by rw [List.length_append, ← HM.out]; rfl, by omega, okW_snoc HEW.out (by omega), hol', own_blk2 HL.out (fun k hk => (hb'.block k (LK.out k hk)).trans (Below.heap_alloc u5 _ k (Nat.lt_of_lt_of_le (LK.out k hk) hzw))), (HO.out.alloc _).kept hg' (fun k h1 h2 => NE.out k h2 h1), (fun k hk h1 => by (rcases hat' with e | e); (next => exact NE.out k (e ▸ hk) h1); (next => (rw [e] at hk; cases hk; have hx9 := (HO.out.own_lt _ h1).2; simp at hx9; try omega))), (HRD.out.belowR (bl_alloc (bl_refl u5) _ |>.mono (by omega)) (by omega)).belowR hb' (by omega) |>.more (by omega) (Nat.le_refl _) (by omega), on_belowR hb' (Nat.le_refl _) (on_alloc ON.out _), by omega⟩); (case measure => simp [intOf]; omega)
              · have g5 : (xp == -1000) = false := beq_eq_false_iff_ne.2 g4
                clear g4
                go_wp2; go_roundw; (case rel => exact ⟨p + 1, A2, m, cc, E, by omega, rfl, by go_num, HM.out, by omega, HEW.out, OE.out, HL.out, HO.out, NE.out, HRD.out.more (by omega) (Nat.le_refl _) (by omega), ON.out, hzw⟩); (case measure => simp [intOf]; omega)
        · go_wp2
          go_ret
          have hpR : p = R.length := by omega
          exact ⟨A2, cc, E, by rw [← HM.out]; rfl, OE.out, by have := HM.out; omega, HEW.out, HRD.out.more (by omega) (Nat.le_refl _) (by omega), ON.out⟩
end Go.Proofs.Ytmncdpiojhgcdaa
