/- Drawn figures, spaces and pages. -/
import Derived.Test.YtkclecfjpabplaaDrawF
import Derived.Test.YtkclecfjpabplaaFigZ
import Derived.Test.YtkclecfjpabplaaStepA
import Derived.Test.YtkclecfjpabplaaApp
import Derived.Deep.CutRange
import Derived.Deep.LoopGhost
namespace Go.Proofs.Ytkclecfjpabplaa
open Go.ChangeShapes Go.WideShapes Go.ChangeAt Go.RowKit
set_option linter.unusedVariables false
set_option maxRecDepth 4000

theorem plV_in {F : List Du} {sp r : List Int} (h : plV F sp = some r) : ∀ j, j < r.length → -1 ≤ ng r j ∧ ng r j ≤ 20 := fun j hj => by
  obtain ⟨h1, h2, _, h4, h5⟩ := plV_some h
  have a := (h5 j (by omega)).1
  have b := ((fgok_iff.1 h1).2 j (by omega)).2.1.1
  have c := (okLen_iff.1 h2).1.2
  omega
/-- What has been drawn so far. -/
structure FSt (w0 w : World) (A : Option Addr) (c : Nat) (L : List Du) (B : Option Addr) (d : Nat) (l : List Int) (Bc : Nat) (C : Option Addr) (k : Nat) (P : List Int) (M : Nat) : Prop where
  hto : TO w 46 (w0.heap.size + 1) A c L
  hsp : OL w 3 (w0.heap.size + 1) B d l
  hou : OL w 3 Bc C k P
  hbc : w0.heap.size + 1 ≤ Bc ∧ Bc ≤ w.heap.size
  hta : ∀ x, (Value.slice A L.length c).ownBlock = some x → x < Bc
  htb : ∀ x, (Value.slice B l.length d).ownBlock = some x → x < Bc
  hbd : ∀ j, j < P.length → -1 ≤ ng P j ∧ ng P j ≤ 20
  hrd : RD w (w0.heap.size + 1) w0.heap.size M
  hbl : Below w0.heap.size w0 w
theorem bl_on {w u v : World} {g : Nat} (hb : Below w.heap.size w u) (hg : u.grownBy v (some g)) (hl : w.heap.size ≤ g) : Below w.heap.size w v :=
  hb.grown hg hb.size (fun k hk => by cases hk; exact hl)
section
variable {w0 w w' : World} {A B C : Option Addr} {c d k M M' Bc : Nat} {L : List Du} {l P : List Int}
theorem FSt.pick (h : FSt w0 w A c L B d l Bc C k P M) (hg : w.grownBy w' (some w0.heap.size)) (hr : RD w' (w0.heap.size + 1) w0.heap.size M') : FSt w0 w' A c L B d l Bc C k P M' :=
  ⟨h.hto.readF hg (by omega), h.hsp.read hg (by omega), h.hou.read hg (by have := h.hbc; omega), ⟨h.hbc.1, Nat.le_trans h.hbc.2 hg.size⟩, h.hta, h.htb, h.hbd, hr, bl_on h.hbl hg (Nat.le_refl _)⟩
theorem FSt.below (h : FSt w0 w A c L B d l Bc C k P M) {n : Nat} (hb : Below n w w') (hn : w.heap.size ≤ n) : FSt w0 w' A c L B d l Bc C k P M := by
  have hb := hb.mono hn
  exact ⟨h.hto.below hb, h.hsp.below hb, h.hou.below hb, ⟨h.hbc.1, Nat.le_trans h.hbc.2 hb.size⟩, h.hta, h.htb, h.hbd, h.hrd.below hb, bl_call hb h.hbl⟩
theorem FSt.app {C' : Option Addr} {k' : Nat} {P' : List Int} {o : Obj} (h : FSt w0 w A c L B d l Bc C k P M) (hb : Below Bc (w.alloc o) w') (hg : (w.alloc o).grownBy w' (Value.slice C P.length k).ownBlock) (ho : OL w' 3 Bc C' k' P') (hd : ∀ j, j < P'.length → -1 ≤ ng P' j ∧ ng P' j ≤ 20) : FSt w0 w' A c L B d l Bc C' k' P' M := by
  have h1 := h.hbc
  have hz := hb.size
  simp at hz
  refine ⟨(h.hto.alloc o).kept hg (fun x hx e => ?_), (h.hsp.alloc o).kept hg (fun x hx e => ?_), ho, ⟨h1.1, by omega⟩, h.hta, h.htb, hd, (h.hrd.alloc o).below' hb (by omega), (bl_alloc h.hbl o).trans (hb.mono (by omega))⟩
  · have := h.hta x hx
    have := (h.hou.own_lt x e).1
    omega
  · have := h.htb x hx
    have := (h.hou.own_lt x e).1
    omega
theorem FSt.more (h : FSt w0 w A c L B d l Bc C k P M) (hm : M ≤ M') : FSt w0 w A c L B d l Bc C k P M' :=
  ⟨h.hto, h.hsp, h.hou, h.hbc, h.hta, h.htb, h.hbd, h.hrd.more hm (Nat.le_refl _) h.hrd.2.1, h.hbl⟩
theorem FSt.sz (h : FSt w0 w A c L B d l Bc C k P M) : w0.heap.size + 1 ≤ w.heap.size := h.hrd.2.1
end
set_option maxHeartbeats 4000000 in
theorem someFigures_any (w : World) (a : Option Addr) (n c : Nat) (zs : List Int) (h : IsRow .u8 w a n c zs) :
    Calls Try.prog 71 #[.slice a n c] w fun e w' => ∃ (A : Option Addr) (c : Nat) (L : List Du) (B : Option Addr) (d : Nat) (l : List Int) (C : Option Addr) (k : Nat) (P : List Int), e = .returned (.tuple #[.slice A L.length c, .slice B l.length d, .slice C P.length k]) ∧ TO w' 46 w.heap.size A c L ∧ OL w' 3 w.heap.size B d l ∧ OL w' 3 w.heap.size C k P ∧ L.length ≤ 5 ∧ l.length ≤ 13 ∧ P.length ≤ 10 ∧ Below w.heap.size w w' := by
  obtain ⟨i0, hi0, jz0, jz1, jz2⟩ := info_parts int_info
  go_enter Try.func71, Try.ntmps71
  go_wp2_with fail
  (with_reducible refine (newReader_any _ _ _ _ _ h).mono ?_)
  rintro e u0 ⟨rfl, hrd, hb⟩
  have hz0 := hrd.2.1
  go_wp2_with fail
  (with_reducible refine (anyFigures_any _ _ _ _ hrd (by omega) (by omega)).mono ?_)
  rintro e u1 ⟨A, c1, L, rfl, hol, hll, hfb, hrd1, hon1⟩
  have hz1 := hon1.size
  go_wp2_with fail
  (with_reducible refine (someSpace_any _ _ _ _ hrd1 (by omega) (by omega)).mono ?_)
  rintro e u2 ⟨B, d, l, rfl, hol2, hll2, hel2, hrd2, hon2⟩
  have hz2 := hon2.size
  have hol3 := hol.readF hon2 (by omega)
  have hb2 : Below w.heap.size w u2 := bl_on (bl_on hb hon1 (Nat.le_refl _)) hon2 (Nat.le_refl _)
  have C := PlaceFigures_s u2 A B c1 d L l hol3.reads hol2.reads (OL_none hol2) (by omega) (by omega)
  unfold RetO at C
  have hr := fun r => plV_in (F := L) (sp := l) (r := r)
  have hrl : ∀ r, plV L l = some r → r.length ≤ 5 := fun r e => by have := (plV_some e).2.2.2.1; omega
  obtain ⟨q, hq⟩ : ∃ q, q = plV L l := ⟨_, rfl⟩
  rw [← hq] at C hr hrl
  have hQl : (q.getD []).length ≤ 5 := by
    cases q with
    | none => simp
    | some r => exact hrl r rfl
  have hQb : ∀ j, j < (q.getD []).length → -1 ≤ ng (q.getD []) j ∧ ng (q.getD []) j ≤ 20 := by
    cases q with
    | none => intro j hj; simp at hj
    | some r => exact hr r rfl
  obtain ⟨Q, hQ⟩ : ∃ Q, Q = q.getD [] := ⟨_, rfl⟩
  obtain ⟨ok, hok⟩ : ∃ ok, ok = q.isSome := ⟨_, rfl⟩
  rw [← hQ, ← hok] at C
  rw [← hQ] at hQl hQb
  have HC := hide C
  have HFB := hide hfb
  have HEL := hide hel2
  have HT := hide (hol3.more (B' := w.heap.size + 1) (by omega))
  have HL := hide (hol2.more (B' := w.heap.size + 1) (by omega))
  have HRD := hide hrd2
  have HB2 := hide hb2
  have HQB := hide hQb
  clear C hr hrl hq hQ hok hQb hol hol2 hol3 hon1 hon2 hrd hrd1 hrd2 hb hb2 hfb hel2 h
  go_wp2_with fail
  (with_reducible refine HC.out.mono ?_)
  rintro e u3 ⟨A3, c3, rfl, ho3, hb3⟩
  have hz3 := hb3.size
  have HT3 := hide (HT.out.below hb3)
  have HL3 := hide (HL.out.below hb3)
  have HRD3 := hide (HRD.out.below hb3)
  have HB3 := hide (bl_call hb3 HB2.out)
  have HR3 := hide (ho3.reads.alloc (.cells #[] 3))
  have HNC := hide (OL_none ho3)
  have H0 : Hid (OL (u3.alloc (.cells #[] 3)) 3 u3.heap.size (some ⟨u3.heap.size, 0, none⟩) 0 []) := hide (by
    have := OL.lit (w := u3) (e := 3) (B := u3.heap.size) (Nat.le_refl _) [] (by simp)
    simpa using this)
  clear hb3 ho3 HT HL HRD HB2 HC
  go_upto_region 6 with first | (at_builtin; go_loud (refine wpList_append_list rfl (.tmp 25) (.tmp 26) _ rfl 3 i0 Try.underlying22 hi0 jz0 jz1 jz2 u3.heap.size (some ⟨u3.heap.size, 0, none⟩) 0 0 [] rfl rfl H0.out A3 Q.length c3 Q rfl HR3.out HNC.out (by omega) (by simp) ?_); intro A5 c5 u5 ho5 hb5 hg5; rw [List.nil_append] at ho5; have HO5 := hide ho5; have HB5 := hide hb5; clear ho5 hb5 hg5) | fail
  have hb35 : Below u3.heap.size u3 u5 := (bl_alloc (bl_refl u3) (.cells #[] 3)).trans HB5.out
  have HS := hide (show FSt w u5 A c1 L B d l u3.heap.size A5 c5 Q 60 from ⟨HT3.out.below hb35, HL3.out.below hb35, HO5.out, ⟨by omega, hb35.size⟩, fun x hx => (HT3.out.own_lt x hx).2, fun x hx => (HL3.out.own_lt x hx).2, HQB.out, (HRD3.out.below hb35).more (by omega) (Nat.le_refl _) (by have := hb35.size; omega), bl_call hb35 HB3.out⟩)
  clear hb35 HT3 HL3 HO5 HQB HRD3 HB3 HB5 HR3 HNC H0 HEL
  go_cut [34] from 28 to 34 (fun t wx => ∃ b : Bool, t = .bool b ∧ FSt w wx A c1 L B d l u3.heap.size A5 c5 Q 61)
  case first =>
    cases ok
    · go_wp2
      go_meet
      exact ⟨true, rfl, HS.out.more (by omega)⟩
    · go_wp2_with (go_at_call 68; (with_reducible refine (pick_any _ _ _ _ _ HS.out.hrd (by omega) (by omega) (by omega)).mono ?_); rintro e wp ⟨r, hr0, hr1, rfl, hrd1, hon1⟩; have HS1 := hide (HS.out.pick hon1 hrd1); clear hon1 hrd1)
      all_goals
        go_meet
        exact ⟨_, rfl, HS1.out⟩
  case rest =>
    obtain ⟨b, rfl, hs⟩ := hcut
    have HS := hide hs
    clear hs
    go_upto_if 34 with fail
    go_cut [10] from 35 to 52 (fun v wx => ∃ (C : Option Addr) (k : Nat) (P : List Int), v = .slice C P.length k ∧ P.length ≤ 10 ∧ FSt w wx A c1 L B d l u3.heap.size C k P 70)
    case first =>
      cases b
      · go_wp2
        go_meet
        exact ⟨A5, c5, Q, rfl, by omega, HS.out.more (by omega)⟩
      · have hsz := HS.out.sz
        have hbc := HS.out.hbc
        have H0 : Hid (OL (wc.alloc (.cells #[] 3)) 3 u3.heap.size (some ⟨wc.heap.size, 0, none⟩) 0 []) := hide (by
          have := OL.lit (w := wc) (e := 3) (B := u3.heap.size) hbc.2 [] (by simp)
          simpa using this)
        have HS0 := hide (HS.out.below (bl_alloc (bl_refl wc) (.cells #[] 3)) (Nat.le_refl _))
        clear HS
        go_wp2
        go_loopw [10, 11] (fun v i u => ∃ (p : Nat) (C : Option Addr) (k : Nat) (P : List Int), p ≤ L.length ∧ i = .int .i64 p ∧ v = .slice C p k ∧ p = P.length ∧ FSt w u A c1 L B d l u3.heap.size C k P (61 + p)) (fun _ i _ => L.length - (intOf i).toNat)
        case atStart => exact ⟨0, _, _, [], by omega, rfl, rfl, rfl, HS0.out.hto, HS0.out.hsp, H0.out, HS0.out.hbc, HS0.out.hta, HS0.out.htb, fun j hj => by simp at hj, HS0.out.hrd, HS0.out.hbl⟩
        case round =>
          obtain ⟨p, C, k, P, hp, rfl, rfl, hpl, hs⟩ := hrel
          have HPL := hide hpl
          have HS := hide hs
          have hsz := hs.sz
          have hbc := hs.hbc
          clear hpl hs
          by_cases hlt : p < L.length
          · obtain ⟨b, o, hA, hbl, _, c1'⟩ := HS.out.hto.reads.at2 hlt
            subst hA
            have hbg : b ≠ w.heap.size := by
              have := HS.out.hto.form (by omega)
              obtain ⟨g, e, h1, _⟩ := this
              injection e with e
              injection e with e
              omega
            have fb := HFB.out _ (tg_mem hlt)
            obtain ⟨y, hy⟩ : ∃ y, y = (tg L p).b := ⟨_, rfl⟩
            rw [← hy] at c1' fb
            obtain ⟨fb0, fb1⟩ := fb
            have c1 := c1'
            clear hy c1'
            go_wp2
            go_region_law (first | (go_simp; go_at_call 68; (with_reducible refine (pick_any _ _ _ _ _ (RD.drew HS.out.hrd) (by omega) (by omega) (by omega)).mono ?_); rintro e wp ⟨r, hr0, hr1, rfl, hrd1, hon1⟩; (try (with_reducible have hon1 := on_undrew hon1)); have HS1 := hide (HS.out.pick hon1 hrd1); have hc1 := (on_cell hon1 b (o + p * 2 + 1) hbl hbg).trans c1; have wr0 : IntKind.i64.wrap (y + r) = y + r := IntWalk.i64_in _ (by omega); have hz1 := HS1.out.hbc.2; clear hon1 hrd1) | (refine step_append_int rfl (.tmp 42) (.tmp 51) _ rfl 3 i0 Try.underlying22 hi0 jz0 jz1 jz2 u3.heap.size C k p P rfl HPL.out (HS1.out.hou.alloc _) wp.heap.size (y + r) rfl (by simp) (by omega) (by simp; omega) ?_; intro A' c' wa hol' hb' hg'))
            all_goals
              go_wp2
              go_roundw
              case rel => exact ⟨p + 1, A', c', P ++ [y + r], by omega, by go_num, rfl, by simp [HPL.out], (HS1.out.app hb' (by rw [← HPL.out]; exact hg') hol' (fun j hj => ng_snoc (P := fun x => -1 ≤ x ∧ x ≤ 20) ⟨by omega, by omega⟩ HS1.out.hbd j hj)).more (by omega)⟩
              case measure => simp [intOf]; omega
          · go_wp2
            go_meet
            obtain rfl : p = L.length := by omega
            exact ⟨C, k, P, by rw [← HPL.out], by have := HPL.out; omega, HS.out.more (by omega)⟩
    case rest =>
      obtain ⟨C, k, P, rfl, hpl, hs⟩ := hcut
      have HS := hide hs
      have hsz := hs.sz
      have hbc := hs.hbc.1
      clear hs
      rcases Nat.eq_zero_or_pos P.length with h0 | h0
      · have g0 : decide ((0 : Int) < (P.length : Int)) = false := decide_eq_false (by omega)
        have g1 : ¬ (0 : Int) < (P.length : Int) := by omega
        have g2 : decide (0 < P.length) = false := decide_eq_false (by omega)
        have H0 := hide h0
        clear h0
        go_wp2
        go_ret3
        exact ⟨A, c1, L, B, d, l, C, k, P, rfl, HS.out.hto.more (by omega), HS.out.hsp.more (by omega), HS.out.hou.more (by omega), hll, hll2, hpl, HS.out.hbl⟩
      go_wp2_with fail
      (with_reducible refine (pick_any _ _ _ _ _ HS.out.hrd (by omega) (by omega) (by omega)).mono ?_)
      rintro e wp ⟨r, hr0, hr1, rfl, hrd1, hon1⟩
      have HS1 := hide (HS.out.pick hon1 hrd1)
      have hsz1 := HS1.out.sz
      clear hon1 hrd1 HS
      rcases (by omega : r = 0 ∨ 0 < r) with rfl | hr
      · go_wp2_with fail
        (with_reducible refine (pick_any _ _ _ _ _ HS1.out.hrd (by omega) (by omega) (by omega)).mono ?_)
        rintro e wq ⟨r, hr0, hr1, rfl, hrd1, hon1⟩
        have HS2 := hide (HS1.out.pick hon1 hrd1)
        have hsz2 := HS2.out.sz
        clear hon1 hrd1 HS1
        obtain ⟨j, rfl⟩ : ∃ j : Nat, r = j := ⟨r.toNat, by omega⟩
        have hjl : j < P.length := by omega
        obtain ⟨g', rfl, hBg, hgz, hfz⟩ := HS2.out.hou.frozen h0
        obtain ⟨b', o', he, _, hc⟩ := HS2.out.hou.reads.at_ hjl
        injection he with he
        cases he
        have fz := hfz j
        obtain ⟨y0, y1⟩ := HS2.out.hbd j hjl
        obtain ⟨y, hy⟩ : ∃ y, y = ng P j := ⟨_, rfl⟩
        rw [← hy] at hc y0 y1
        have M := hide (HS2.out.hou.set_ j (y + 1))
        rw [Nat.zero_add] at hc
        clear hfz hy
        go_wp2
        go_ret3
        exact ⟨A, c1, L, B, d, l, some ⟨g', 0, none⟩, k, P.set j (y + 1), by rw [List.length_set]; rfl, (HS2.out.hto.kept M.out.2 (fun k' hk' e => by have := HS2.out.hta k' hk'; cases e; omega)).more (by omega), (HS2.out.hsp.kept M.out.2 (fun k' hk' e => by have := HS2.out.htb k' hk'; cases e; omega)).more (by omega), M.out.1.more (by omega), hll, hll2, by rw [List.length_set]; exact hpl, bl_on HS2.out.hbl M.out.2 (by omega)⟩
      · have r0 : (r == 0) = false := beq_eq_false_iff_ne.2 (by omega)
        go_wp2
        go_ret3
        exact ⟨A, c1, L, B, d, l, C, k, P, rfl, HS1.out.hto.more (by omega), HS1.out.hsp.more (by omega), HS1.out.hou.more (by omega), hll, hll2, hpl, HS1.out.hbl⟩
theorem DrawCheckFigures_any (w : World) (a : Option Addr) (n c : Nat) (zs : List Int) (h : IsRow .u8 w a n c zs) :
    Calls Try.prog 30 #[.slice a n c] w fun e w' => ∃ (A : Option Addr) (c : Nat) (L : List Du) (B : Option Addr) (d : Nat) (l : List Int) (C : Option Addr) (k : Nat) (P : List Int), e = .returned (.tuple #[.slice A L.length c, .slice B l.length d, .slice C P.length k]) ∧ TO w' 46 w.heap.size A c L ∧ OL w' 3 w.heap.size B d l ∧ OL w' 3 w.heap.size C k P ∧ L.length ≤ 5 ∧ l.length ≤ 13 ∧ P.length ≤ 10 ∧ Below w.heap.size w w' := by
  go_enter Try.func30, Try.ntmps30
  go_wp2_with fail
  (with_reducible refine (someFigures_any _ _ _ _ _ h).mono ?_)
  rintro e u ⟨A, c1, L, B, d, l, C, k, P, rfl, h1, h2, h3, h4, h5, h6, h7⟩
  go_wp2
  go_ret3
  exact ⟨A, c1, L, B, d, l, C, k, P, rfl, h1, h2, h3, h4, h5, h6, h7⟩
theorem DrawTotalDelay_any (w : World) (a : Option Addr) (n c : Nat) (zs : List Int) (h : IsRow .u8 w a n c zs) :
    Calls Try.prog 34 #[.slice a n c] w fun e w' => ∃ (A : Option Addr) (c : Nat) (L : List Du) (B : Option Addr) (d : Nat) (l : List Int) (C : Option Addr) (k : Nat) (P : List Int), e = .returned (.tuple #[.slice A L.length c, .slice B l.length d, .slice C P.length k]) ∧ TO w' 46 w.heap.size A c L ∧ OL w' 3 w.heap.size B d l ∧ OL w' 3 w.heap.size C k P ∧ L.length ≤ 5 ∧ l.length ≤ 13 ∧ P.length ≤ 10 ∧ Below w.heap.size w w' := by
  go_enter Try.func34, Try.ntmps34
  go_wp2_with fail
  (with_reducible refine (someFigures_any _ _ _ _ _ h).mono ?_)
  rintro e u ⟨A, c1, L, B, d, l, C, k, P, rfl, h1, h2, h3, h4, h5, h6, h7⟩
  go_wp2
  go_ret3
  exact ⟨A, c1, L, B, d, l, C, k, P, rfl, h1, h2, h3, h4, h5, h6, h7⟩
end Go.Proofs.Ytkclecfjpabplaa
