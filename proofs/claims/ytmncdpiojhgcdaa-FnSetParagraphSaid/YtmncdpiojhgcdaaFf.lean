/- Breaks that are chosen one after the other, in the program: FirstFit. -/
import Derived.Test.YtmncdpiojhgcdaaFfM
import Derived.Test.YtmncdpiojhgcdaaPlc
import Derived.Test.YtmncdpiojhgcdaaSa
import Derived.Test.YtmncdpiojhgcdaaSf
import Derived.Test.YtmncdpiojhgcdaaApI
import Derived.Test.YtmncdpiojhgcdaaRfK
import Derived.WalkKit
import Derived.TacticsInMore
import Derived.LoopNIn
import Derived.LoopIn
namespace Go.Proofs.Ytmncdpiojhgcdaa
open Go.ChangeShapes Go.WideShapes Go.ChangeAt Go.RowKit Go.Shelf
set_option linter.unusedVariables false
set_option linter.unusedSimpArgs false
attribute [local go_sem] Oper.semAt_some

theorem own_blk {w w' : World} {B n size : Nat} {e : TypeId} {v : Value} {xs : List Value} (h : w.ownsRow B e size v n xs) (hk : ∀ k, v.ownBlock = some k → w'.heap[k]? = w.heap[k]?) : w'.ownsRow B e size v n xs := by
  refine ⟨h.1, ?_⟩
  rcases h.2 with h0 | ⟨g, cap, cur, h1, h2, h3, h4⟩
  · exact .inl h0
  · refine .inr ⟨g, cap, cur, h1, h2, ?_, h4⟩
    rw [hk g (by rw [h1]; rfl)]
    exact h3
/-- The blocks of a measured paragraph. -/
theorem PS.blocks {u : World} {B gp g c1 gs gf gb : Nat} {L : List It} (h : PS u B gp g c1 gs gf gb L) : gp < u.heap.size ∧ (B ≤ g ∧ g < u.heap.size) ∧ (B ≤ gs ∧ gs < u.heap.size) ∧ (B ≤ gf ∧ gf < u.heap.size) ∧ (B ≤ gb ∧ gb < u.heap.size) :=
  ⟨World.block_lt_of_cell? u _ h.k0, World.ownsRow.lt h.row g rfl, World.ownsRow.lt h.pr.1 gs rfl, World.ownsRow.lt h.pr.2.1 gf rfl, World.ownsRow.lt h.pr.2.2 gb rfl⟩
theorem PS.kb {u u' : World} {B gp g c1 gs gf gb n₁ bx : Nat} {L : List It} (h : PS u B gp g c1 gs gf gb L) (hk : KB n₁ bx u u') (hp : gp < n₁ ∧ gp ≠ bx) (hg : g < n₁ ∧ g ≠ bx) (hs : gs < n₁ ∧ gs ≠ bx) (hf : gf < n₁ ∧ gf ≠ bx) (hb : gb < n₁ ∧ gb ≠ bx) : PS u' B gp g c1 gs gf gb L := by
  have hc : ∀ j, u'.cell? ⟨gp, j, none⟩ = u.cell? ⟨gp, j, none⟩ := fun j => hk.cell (p := ⟨gp, j, none⟩) hp.1 hp.2
  have ho : ∀ {b : Nat} {cc m : Nat}, b < n₁ ∧ b ≠ bx → ∀ k, (Value.slice (some ⟨b, 0, none⟩) m cc).ownBlock = some k → u'.heap[k]? = u.heap[k]? := fun {b cc m} hb k e => by
    have e' : (Value.slice (some ⟨b, 0, none⟩) m cc).ownBlock = some b := rfl
    rw [e'] at e
    cases e
    exact hk.2 b hb.1 hb.2
  exact ⟨(hc 0).trans h.k0, (hc 1).trans h.k1, (hc 2).trans h.k2, (hc 3).trans h.k3, own_blk h.row (ho hg), own_blk h.pr.1 (ho hs), own_blk h.pr.2.1 (ho hf), own_blk h.pr.2.2 (ho hb)⟩
theorem KB.b {n₁ bx : Nat} {w : World} (hn : n₁ ≤ w.heap.size) (W : World) (l : Nat) (o o' : Obj) (hl : w.heap.size ≤ l) (h : W.heap[l]? = some o) (h2 : o.isCells = false) (h3 : o.isWalk = false) : KB n₁ bx W (W.putObj l o') :=
  KB.below (belowK_b hn W l o o' hl h h2 h3)
set_option maxRecDepth 8000 in
set_option maxHeartbeats 4000000 in
theorem firstFit_i (w : World) {B gp g c1 gs gf gb : Nat} (L : List It) (hps : PS w B gp g c1 gs gf gb L) (ok : isOk L = true) (d : Int) (hd : inB d 1 10000 = true) (p : Nat) (a : Int) (ha : a = (p : Int) - 1) (hp : p ≤ L.length) :
    Calls Try.prog 146 #[.agg #[.slice (some ⟨g, 0, none⟩) L.length c1, .slice (some ⟨gs, 0, none⟩) (L.length + 1) (L.length + 1), .slice (some ⟨gf, 0, none⟩) (L.length + 1) (L.length + 1), .slice (some ⟨gb, 0, none⟩) (L.length + 1) (L.length + 1)], .int .i64 a, .int .i64 d] w fun e w' => e = .returned (.int .i64 (ffN L d p)) ∧ Below w.heap.size w w' := by
  have HA := hide ha
  have ha1 : a ≤ (p : Int) - 1 := by omega
  have ha2 : (p : Int) - 1 ≤ a := by omega
  have wp : IntKind.i64.wrap (a + 1) = (p : Int) := by rw [show a + 1 = (p : Int) by omega]; exact IntWalk.i64_in _ (by have := (isOk_iff.1 ok).2.1; omega)
  have HPS := hide hps.copy
  have HB0 := hide (bl_alloc (bl_refl w) (.cells #[.slice (some ⟨g, 0, none⟩) L.length c1, .slice (some ⟨gs, 0, none⟩) (L.length + 1) (L.length + 1), .slice (some ⟨gf, 0, none⟩) (L.length + 1) (L.length + 1), .slice (some ⟨gb, 0, none⟩) (L.length + 1) (L.length + 1)] 82))
  have HK := isOk_iff.1 ok
  have HALL := hide HK.1
  have hl60 := HK.2.1
  have hl1000 : L.length ≤ 1000 := by omega
  have HD := hide hd
  obtain ⟨F, hF⟩ : ∃ F, F = ffN L d p := ⟨_, rfl⟩
  rw [← hF]
  unfold ffN at hF
  have HF := hide hF
  have wl1 : IntKind.i64.wrap ((L.length : Int) - 1) = (L.length : Int) - 1 := IntWalk.i64_in _ (by omega)
  clear hps ha HK hd hF ok
  go_enter Try.func146, Try.ntmps146
  go_wp2
  go_loopw [7, 8] (fun f i u => ∃ (m : Nat) (z t : Int), p + m ≤ L.length ∧ i = .int .i64 t ∧ t = ((p + m : Nat) : Int) ∧ f = .int .i64 z ∧ z = ffT L d p m ∧ Below w.heap.size w u ∧ PS u B w.heap.size g c1 gs gf gb L) (fun _ i _ => L.length - (intOf i).toNat)
  case atStart => exact ⟨0, -1, (p : Int), hp, rfl, rfl, rfl, rfl, HB0.out, HPS.out⟩
  case round =>
    obtain ⟨m, z, t, hm, rfl, ht, rfl, hz, hbl, hpw⟩ := hrel
    have HZ := hide hz
    have HB := hide hbl
    have HPW := hide hpw
    have IN := ffT_in (L := L) (d := d) (p := p) (m := m)
    rw [← hz] at IN
    have HT := hide ht
    have ht1 : (p : Int) ≤ t := by omega
    have ht2 : t ≤ (L.length : Int) := by omega
    have hz1 : -1 ≤ z := by rcases IN with e | ⟨q, e, _⟩ <;> omega
    clear hz hbl hpw HPS HB0
    have k0 := HPW.out.k0; have k1 := HPW.out.k1; have k2 := HPW.out.k2; have k3 := HPW.out.k3
    by_cases hlt : p + m < L.length
    · have htl : t ≤ (L.length : Int) - 1 := by omega
      have htl2 : t < (L.length : Int) := by omega
      have PH := fun (u : World) (hu : PS u B w.heap.size g c1 gs gf gb L) => hu.hasLine HALL.out hl60 a t (by omega) (by omega)
      have PF := fun (u : World) (hu : PS u B w.heap.size g c1 gs gf gb L) => fit_i u L hu HALL.out hl60 a t d (by omega) (by omega)
      have FY := hide (fun h h2 => ffT_yes (L := L) (d := d) (p := p) (m := m) h h2)
      have FN := hide (fun h => ffT_no (L := L) (d := d) (p := p) (m := m) h)
      have FS := hide (fun h h2 => ffT_stay (L := L) (d := d) (p := p) (m := m) h h2)
      rw [← HZ.out, ← HA.out, ← HT.out] at FY FN FS
      obtain ⟨hl, hhl⟩ : ∃ h, h = hasL L a t := ⟨_, rfl⟩
      obtain ⟨r1, hr1⟩ : ∃ h, h = (ftL L a t d).1 := ⟨_, rfl⟩
      obtain ⟨r2, hr2⟩ : ∃ h, h = (ftL L a t d).2 := ⟨_, rfl⟩
      rw [← hhl] at PH FY FN
      rw [← hr1] at FY FS PF
      rw [← hr2] at PF
      have HPH := hide PH
      have HPF := hide PF
      clear ht IN PH PF hhl hr1 hr2
      go_wp2_with fail; (with_reducible refine (last_i _ _ _ _ hl1000).mono ?_); rintro e u1 ⟨rfl, hb⟩; have HB1 := hide (bl_call hb HB.out); have HPW1 := hide (HPW.out.below hb); have k0 := keep_cell hb k0; have k1 := keep_cell hb k1; have k2 := keep_cell hb k2; have k3 := keep_cell hb k3; clear hb
      go_wp2_with fail
      (with_reducible refine (HPH.out _ HPW1.out).mono ?_)
      rintro e u2 ⟨rfl, hb⟩
      have HB2 := hide (bl_call hb HB1.out)
      have HPW2 := hide (HPW1.out.below hb)
      clear hb k0 k1 k2 k3
      have k0 := HPW2.out.k0
      have k1 := HPW2.out.k1
      have k2 := HPW2.out.k2
      have k3 := HPW2.out.k3
      cases hl
      · have N := hide (FN.out rfl)
        clear FY FN FS
        go_wp2
        go_roundw
        case rel => exact ⟨m + 1, z, t + 1, by omega, by go_num, by have := HT.out; omega, rfl, N.out.symm, HB2.out, HPW2.out⟩
        case measure => simp [intOf]; omega
      · have FY' := hide (FY.out rfl)
        clear FY FN
        go_wp2_with fail
        (with_reducible refine (HPF.out _ HPW2.out).mono ?_)
        rintro e u3 ⟨rfl, hb⟩
        have HB3 := hide (bl_call hb HB2.out)
        have HPW3 := hide (HPW2.out.below hb)
        clear hb k0 k1 k2 k3
        rcases (by omega : z < 0 ∨ 0 ≤ z ∧ r1 ≠ 4 ∨ 0 ≤ z ∧ r1 = 4) with q | ⟨q, q2⟩ | ⟨q, q2⟩
        · have N := hide (FY'.out (.inl q))
          clear FY' FS
          go_wp2
          go_roundw
          case rel => exact ⟨m + 1, t, t + 1, by omega, by go_num, by have := HT.out; omega, rfl, N.out.symm, HB3.out, HPW3.out⟩
          case measure => simp [intOf]; omega
        · have N := hide (FY'.out (.inr q2))
          have g1 : (r1 != 4) = true := bne_iff_ne.2 q2
          have g2 : ¬ z < 0 := by omega
          clear FY' FS q2
          go_wp2
          go_roundw
          case rel => exact ⟨m + 1, t, t + 1, by omega, by go_num, by have := HT.out; omega, rfl, N.out.symm, HB3.out, HPW3.out⟩
          case measure => simp [intOf]; omega
        · have N := hide (FS.out q q2)
          subst q2
          have g2 : ¬ z < 0 := by omega
          clear FY' FS
          go_wp2
          go_roundw
          case rel => exact ⟨m + 1, z, t + 1, by omega, by go_num, by have := HT.out; omega, rfl, N.out.symm, HB3.out, HPW3.out⟩
          case measure => simp [intOf]; omega
    · have hml : m = L.length - p := by omega
      have E := hide (show z = F by rw [HF.out, HZ.out, hml])
      have htl : ¬ t ≤ (L.length : Int) - 1 := by omega
      clear ht hml IN hlt
      go_wp2_with fail; (with_reducible refine (last_i _ _ _ _ hl1000).mono ?_); rintro e u1 ⟨rfl, hb⟩; have HB1 := hide (bl_call hb HB.out); have HPW1 := hide (HPW.out.below hb); have k0 := keep_cell hb k0; have k1 := keep_cell hb k1; have k2 := keep_cell hb k2; have k3 := keep_cell hb k3; clear hb
      go_wp2
      go_ret
      exact ⟨by rw [← E.out]; rfl, HB1.out⟩
noncomputable abbrev encF (L : List It) (d : Int) (k : Nat) : Array Value := #[.int .i64 (((fpS L d k : Nat) : Int) - 1), .int .i64 (((fpS L d (k + 1) : Nat) : Int) - 1)]
theorem firstLines_i (w : World) (v0 v1 v2 v3 : Value) (d : Int) :
    Calls Try.prog 105 #[.agg #[v0, v1, v2, v3], .int .i64 d] w fun e w' => e = .returned (.func (.func 145) #[] #[.pointer (some ⟨w.heap.size, 0, none⟩), .pointer (some ⟨w.heap.size + 1, 0, none⟩)]) ∧ (w.alloc (.cells #[v0, v1, v2, v3] 82)).alloc (.cells #[.int .i64 d] 3) = w' := by
  go_enter Try.func105, Try.ntmps105
  go_wp2
  go_ret
  exact ⟨rfl, rfl⟩
set_option maxRecDepth 100000 in
set_option maxHeartbeats 4000000 in
theorem firstLines_seq (w : World) {B gp bd g c1 gs gf gb : Nat} (L : List It) (hps : PS w B gp g c1 gs gf gb L) (ok : isOk L = true) (d : Int) (hd : inB d 1 10000 = true) (hbd : w.cell? ⟨bd, 0, none⟩ = some (.int .i64 d)) (bx : Nat) (hx1 : gp ≠ bx) (hx2 : g ≠ bx) (hx3 : gs ≠ bx) (hx4 : gf ≠ bx) (hx5 : gb ≠ bx) (hx6 : bd ≠ bx) :
    SeqN Fence.wide 4 Try.prog 145 #[.pointer (some ⟨gp, 0, none⟩), .pointer (some ⟨bd, 0, none⟩)] (encF L d) (KB w.heap.size bx) (nFF L d) w := fun l J W hW hJ hY h0 => by
  have hl60 := (isOk_iff.1 ok).2.1
  have hl1000 : L.length ≤ 1000 := by omega
  have wl1 : IntKind.i64.wrap ((L.length : Int) - 1) = (L.length : Int) - 1 := IntWalk.i64_in _ (by omega)
  have HPS := hide hps
  have PB := hide hps.blocks
  have hbl := World.block_lt_of_cell? w _ hbd
  have HJ := hide hJ
  have HYY := hide hY
  have HW := hide hW
  have HOK := hide ok
  have HDD := hide hd
  have HBD := hide hbd
  have hzW := hW.size
  have J0 := hide h0
  clear hps hJ hY hW h0 ok hd hbd
  refine callsIn_of_wp Try.func145 rfl trivial ?_ rfl
  simp only [Try.ntmps145, List.size_toArray, List.length_cons, List.length_nil, Nat.reduceAdd, Nat.reduceSub, Array.replicate_succ, Array.replicate_zero, List.push_toArray, List.append_toArray, List.nil_append, List.cons_append]
  gi_wp2
  gi_loopw [4] (fun i wr => ∃ (k : Nat) (f : Int), k ≤ nFF L d ∧ i = .int .i64 f ∧ f = ((fpS L d k : Nat) : Int) - 1 ∧ J k wr ∧ KB w.heap.size bx W wr ∧ W.heap.size ≤ wr.heap.size) (fun i _ => ((L.length : Int) - 1 - intOf i).toNat)
  case atStart => exact ⟨0, -1, Nat.zero_le _, rfl, rfl, J0.out, KB.refl _ _ _, Nat.le_refl _⟩
  case round =>
    obtain ⟨k, f, hk, rfl, hf, hJs, hnx, hzr⟩ := hrel
    have HJS := hide hJs
    have HX := hide hnx
    have HPW := hide ((HPS.out.below HW.out).kb hnx ⟨PB.out.1, hx1⟩ ⟨PB.out.2.1.2, hx2⟩ ⟨PB.out.2.2.1.2, hx3⟩ ⟨PB.out.2.2.2.1.2, hx4⟩ ⟨PB.out.2.2.2.2.2, hx5⟩)
    have kd : wr.cell? ⟨bd, 0, none⟩ = some (.int .i64 d) := (hnx.cell (p := ⟨bd, 0, none⟩) hbl hx6).trans (keep_cell HW.out HBD.out)
    have k0 := HPW.out.k0; have k1 := HPW.out.k1; have k2 := HPW.out.k2; have k3 := HPW.out.k3
    have FST := (fpS_step (d := d) HOK.out (k := k))
    have hf1 := FST.1.1
    clear hJs hnx
    by_cases hlt : k < nFF L d
    · have hfl := nFF_lt HOK.out hlt
      obtain ⟨q, q1, q2, q3, q4, q5⟩ := FST.2 hfl
      have HEN := hide (show encF L d k = #[.int .i64 f, .int .i64 q] by unfold encF; rw [← hf, q4, show (((q + 1 : Nat) : Int)) - 1 = (q : Int) by omega])
      have HFF := hide (fun (u : World) (hu : PS u B gp g c1 gs gf gb L) => firstFit_i u L hu HOK.out d HDD.out (fpS L d k) f hf hf1)
      rw [q1] at HFF
      have NX := hide (show (q : Int) = ((fpS L d (k + 1) : Nat) : Int) - 1 by rw [q4]; omega)
      have hfa : f < (L.length : Int) - 1 := by omega
      have hfq : f < (q : Int) := by omega
      have hql : (q : Int) < (L.length : Int) := by omega
      have hkn : k < nFF L d := hlt
      clear FST hf1 hfl q1 q2 q4 q5 hf hlt
      gi_wp2_with (first | (refine ⟨trivial, ?_⟩; gi_at_call 128; (with_reducible refine (callsIn_wide.2 (last_i _ _ _ _ hl1000)).mono ?_); rintro e u1 ⟨rfl, hb⟩; have HB1 := hide hb; have HPW1 := hide (HPW.out.below hb); have k0 := keep_cell hb k0; have k1 := keep_cell hb k1; have k2 := keep_cell hb k2; have k3 := keep_cell hb k3; have kd := keep_cell hb kd; clear hb) | (refine ⟨trivial, ?_⟩; gi_at_call 146; (with_reducible refine (callsIn_wide.2 (HFF.out _ HPW1.out)).mono ?_); rintro e u2 ⟨rfl, hb⟩; have HB2 := hide (bl_call hb HB1.out); clear hb; obtain ⟨fn, tmps, assign, body, hy, hR⟩ := HYY.out _ u2 hkn (HJ.out _ _ _ none HJS.out (grown_none HB2.out) (fun r h => by cases h)); rw [HEN.out] at hy; (try dsimp only at hy); have HR := hide hR; clear hR))
      refine HR.out.mono ?_
      rintro e W3 ⟨rfl, hJ3, hk3⟩
      gi_wp2
      go_roundw
      case rel => exact ⟨k + 1, q, by omega, by go_num, NX.out, hJ3, (HX.out.trans (KB.below (HB2.out.mono (Nat.le_trans hzW hzr)))).trans hk3, Nat.le_trans hzr (Nat.le_trans HB2.out.size hk3.1)⟩
      case measure => simp [intOf]; omega
    · have hkn : k = nFF L d := by omega
      have he := nFF_end (d := d) HOK.out
      have hfa : ¬ f < (L.length : Int) - 1 := by rw [hf, hkn, he]; omega
      have HKN := hide hkn
      clear FST hf1 hf hlt he hkn
      gi_wp2_with (refine ⟨trivial, ?_⟩; gi_at_call 128; (with_reducible refine (callsIn_wide.2 (last_i _ _ _ _ hl1000)).mono ?_); rintro e u1 ⟨rfl, hb⟩; have HB1 := hide hb; have HPW1 := hide (HPW.out.below hb); have k0 := keep_cell hb k0; have k1 := keep_cell hb k1; have k2 := keep_cell hb k2; have k3 := keep_cell hb k3; have kd := keep_cell hb kd; clear hb)
      go_end0
      exact ⟨⟨_, rfl⟩, by rw [← HKN.out]; exact HJ.out _ _ _ none HJS.out (grown_none HB1.out) (fun r h => by cases h)⟩
set_option maxRecDepth 100000 in
set_option maxHeartbeats 4000000 in
theorem FirstFit_i (w : World) (A : Option Addr) (n c : Nat) (L : List It) (d : Int) (h : TL w A n L) (hn : n ≤ 1048576) :
    Calls Try.prog 59 #[.slice A n c, .int .i64 d] w (RetL w (ffO L d)) := by
  have ME := hide (measure_i w A n c L h (by omega))
  obtain rfl : n = L.length := h.1
  clear h
  cases hok : isOk L
  · have O := hide (ffO_no (L := L) (d := d) (by rw [hok]; rfl))
    rw [hok] at ME
    clear hok
    go_enter Try.func59, Try.ntmps59
    go_wp2_with fail
    (with_reducible refine ME.out.mono ?_)
    rintro e u1 ⟨v, rfl, hv, hv0, hb⟩
    obtain rfl := hv0 (by trivial)
    have HB1 := hide hb
    clear hv hv0 hb
    go_wp2
    go_ret
    exact ⟨none, 0, by rw [O.out]; rfl, by rw [O.out]; exact OL.nil _ _ _, bl_alloc HB1.out _⟩
  cases q1 : inB d 1 10000
  · have O := hide (ffO_no (L := L) (d := d) (by rw [q1]; simp))
    rw [hok] at ME
    clear hok
    go_enter Try.func59, Try.ntmps59
    go_wp2_with fail
    (with_reducible refine ME.out.mono ?_)
    rintro e u1 ⟨v, rfl, hv, hv0, hb⟩
    have HB1 := hide hb
    obtain ⟨g, c1, gs, gf, gb, rfl, hrow, hpr⟩ := hv (by trivial)
    clear hv hv0 hb hrow hpr
    go_wp2_with (go_at_call 91; refine (validWidth_ii _ _).mono ?_; rintro e w' ⟨rfl, rfl⟩)
    go_ret
    exact ⟨none, 0, by rw [O.out]; rfl, by rw [O.out]; exact OL.nil _ _ _, bl_alloc HB1.out _⟩
  have O := hide (ffO_yes (L := L) (d := d) (by rw [hok, q1]; rfl))
  have HOK := hide hok
  have HQ1 := hide q1
  have hl60 := (isOk_iff.1 hok).2.1
  rw [hok] at ME
  rw [O.out]
  obtain ⟨i0, hi0, jz0, jz1, jz2⟩ := info_parts int_info
  clear hok O
  refine (callsIn_wide (n := 5)).1 ?_
  refine callsIn_of_wp_marks Try.func59 rfl trivial ?_ rfl
  simp only [Try.ntmps59, List.size_toArray, List.length_cons, List.length_nil, Nat.reduceAdd, Nat.reduceSub, Array.replicate_succ, Array.replicate_zero, List.push_toArray, List.append_toArray, List.nil_append, List.cons_append]
  gi_wp2_with (first | (refine ⟨trivial, ?_⟩; gi_at_call 67; (with_reducible refine (callsIn_wide.2 ME.out).mono ?_); rintro e u1 ⟨v, rfl, hv, hv0, hb⟩; obtain ⟨g, c1, gs, gf, gb, rfl, hrow, hpr⟩ := hv (by trivial); have HBK := hide (show g < u1.heap.size ∧ gs < u1.heap.size ∧ gf < u1.heap.size ∧ gb < u1.heap.size from ⟨(World.ownsRow.lt hrow g rfl).2, (World.ownsRow.lt hpr.1 gs rfl).2, (World.ownsRow.lt hpr.2.1 gf rfl).2, (World.ownsRow.lt hpr.2.2 gb rfl).2⟩); have HPS := hide (ps_made hrow hpr); have HB1 := hide (bl_alloc hb (.cells #[.slice (some ⟨g, 0, none⟩) L.length c1, .slice (some ⟨gs, 0, none⟩) (L.length + 1) (L.length + 1), .slice (some ⟨gf, 0, none⟩) (L.length + 1) (L.length + 1), .slice (some ⟨gb, 0, none⟩) (L.length + 1) (L.length + 1)] 82)); clear hv hv0 hb hrow hpr; have k0 := HPS.out.k0; have k1 := HPS.out.k1; have k2 := HPS.out.k2; have k3 := HPS.out.k3) | (refine ⟨trivial, ?_⟩; gi_at_call 91; (with_reducible refine (callsIn_wide.2 (validWidth_ii _ _)).mono ?_); rintro e w' ⟨rfl, rfl⟩) | (refine ⟨trivial, ?_⟩; gi_at_call 105; (with_reducible refine (callsIn_wide.2 (firstLines_i _ _ _ _ _ _)).mono ?_); rintro e w' ⟨rfl, rfl⟩))
  have c7 : ((((u1.alloc (.cells #[.slice (some ⟨g, 0, none⟩) L.length c1, .slice (some ⟨gs, 0, none⟩) (L.length + 1) (L.length + 1), .slice (some ⟨gf, 0, none⟩) (L.length + 1) (L.length + 1), .slice (some ⟨gb, 0, none⟩) (L.length + 1) (L.length + 1)] 82)).alloc (.cells #[.slice none 0 0] 30)).alloc (.cells #[.slice (some ⟨g, 0, none⟩) L.length c1, .slice (some ⟨gs, 0, none⟩) (L.length + 1) (L.length + 1), .slice (some ⟨gf, 0, none⟩) (L.length + 1) (L.length + 1), .slice (some ⟨gb, 0, none⟩) (L.length + 1) (L.length + 1)] 82)).alloc (.cells #[.int .i64 d] 3)).cell? ⟨u1.heap.size + 1, 0, none⟩ = some (.slice none 0 0) := by simp [go_sem]
  have f7 : ((((u1.alloc (.cells #[.slice (some ⟨g, 0, none⟩) L.length c1, .slice (some ⟨gs, 0, none⟩) (L.length + 1) (L.length + 1), .slice (some ⟨gf, 0, none⟩) (L.length + 1) (L.length + 1), .slice (some ⟨gb, 0, none⟩) (L.length + 1) (L.length + 1)] 82)).alloc (.cells #[.slice none 0 0] 30)).alloc (.cells #[.slice (some ⟨g, 0, none⟩) L.length c1, .slice (some ⟨gs, 0, none⟩) (L.length + 1) (L.length + 1), .slice (some ⟨gf, 0, none⟩) (L.length + 1) (L.length + 1), .slice (some ⟨gb, 0, none⟩) (L.length + 1) (L.length + 1)] 82)).alloc (.cells #[.int .i64 d] 3)).frozen? ⟨u1.heap.size + 1, 0, none⟩ = false := by simp [go_sem]
  have cd : ((((u1.alloc (.cells #[.slice (some ⟨g, 0, none⟩) L.length c1, .slice (some ⟨gs, 0, none⟩) (L.length + 1) (L.length + 1), .slice (some ⟨gf, 0, none⟩) (L.length + 1) (L.length + 1), .slice (some ⟨gb, 0, none⟩) (L.length + 1) (L.length + 1)] 82)).alloc (.cells #[.slice none 0 0] 30)).alloc (.cells #[.slice (some ⟨g, 0, none⟩) L.length c1, .slice (some ⟨gs, 0, none⟩) (L.length + 1) (L.length + 1), .slice (some ⟨gf, 0, none⟩) (L.length + 1) (L.length + 1), .slice (some ⟨gb, 0, none⟩) (L.length + 1) (L.length + 1)] 82)).alloc (.cells #[.int .i64 d] 3)).cell? ⟨u1.heap.size + 1 + 1 + 1, 0, none⟩ = some (.int .i64 d) := by simp [go_sem]
  have hz0 : ((((u1.alloc (.cells #[.slice (some ⟨g, 0, none⟩) L.length c1, .slice (some ⟨gs, 0, none⟩) (L.length + 1) (L.length + 1), .slice (some ⟨gf, 0, none⟩) (L.length + 1) (L.length + 1), .slice (some ⟨gb, 0, none⟩) (L.length + 1) (L.length + 1)] 82)).alloc (.cells #[.slice none 0 0] 30)).alloc (.cells #[.slice (some ⟨g, 0, none⟩) L.length c1, .slice (some ⟨gs, 0, none⟩) (L.length + 1) (L.length + 1), .slice (some ⟨gf, 0, none⟩) (L.length + 1) (L.length + 1), .slice (some ⟨gb, 0, none⟩) (L.length + 1) (L.length + 1)] 82)).alloc (.cells #[.int .i64 d] 3)).heap.size = u1.heap.size + 4 := by simp
  have HP3 := hide (show PS ((((u1.alloc (.cells #[.slice (some ⟨g, 0, none⟩) L.length c1, .slice (some ⟨gs, 0, none⟩) (L.length + 1) (L.length + 1), .slice (some ⟨gf, 0, none⟩) (L.length + 1) (L.length + 1), .slice (some ⟨gb, 0, none⟩) (L.length + 1) (L.length + 1)] 82)).alloc (.cells #[.slice none 0 0] 30)).alloc (.cells #[.slice (some ⟨g, 0, none⟩) L.length c1, .slice (some ⟨gs, 0, none⟩) (L.length + 1) (L.length + 1), .slice (some ⟨gf, 0, none⟩) (L.length + 1) (L.length + 1), .slice (some ⟨gb, 0, none⟩) (L.length + 1) (L.length + 1)] 82)).alloc (.cells #[.int .i64 d] 3)) w.heap.size (u1.heap.size + 1 + 1) g c1 gs gf gb L from by
    have h5 := (HPS.out.below (bl_alloc (bl_refl _) (.cells #[.slice none 0 0] 30))).copy
    rw [show ((u1.alloc (.cells #[.slice (some ⟨g, 0, none⟩) L.length c1, .slice (some ⟨gs, 0, none⟩) (L.length + 1) (L.length + 1), .slice (some ⟨gf, 0, none⟩) (L.length + 1) (L.length + 1), .slice (some ⟨gb, 0, none⟩) (L.length + 1) (L.length + 1)] 82)).alloc (.cells #[.slice none 0 0] 30)).heap.size = u1.heap.size + 1 + 1 by simp] at h5
    exact h5.below (bl_alloc (bl_refl _) _))
  have PBL := hide (show (g < u1.heap.size ∧ gs < u1.heap.size ∧ gf < u1.heap.size ∧ gb < u1.heap.size) from HBK.out)
  have hB0 : Below w.heap.size w ((((u1.alloc (.cells #[.slice (some ⟨g, 0, none⟩) L.length c1, .slice (some ⟨gs, 0, none⟩) (L.length + 1) (L.length + 1), .slice (some ⟨gf, 0, none⟩) (L.length + 1) (L.length + 1), .slice (some ⟨gb, 0, none⟩) (L.length + 1) (L.length + 1)] 82)).alloc (.cells #[.slice none 0 0] 30)).alloc (.cells #[.slice (some ⟨g, 0, none⟩) L.length c1, .slice (some ⟨gs, 0, none⟩) (L.length + 1) (L.length + 1), .slice (some ⟨gf, 0, none⟩) (L.length + 1) (L.length + 1), .slice (some ⟨gb, 0, none⟩) (L.length + 1) (L.length + 1)] 82)).alloc (.cells #[.int .i64 d] 3)) := bl_alloc (bl_alloc (bl_alloc HB1.out _) _) _
  have hu1 : w.heap.size ≤ u1.heap.size + 1 := by have := HB1.out.size; simp at this; omega
  obtain ⟨W0, hW0⟩ : ∃ W0, W0 = ((((u1.alloc (.cells #[.slice (some ⟨g, 0, none⟩) L.length c1, .slice (some ⟨gs, 0, none⟩) (L.length + 1) (L.length + 1), .slice (some ⟨gf, 0, none⟩) (L.length + 1) (L.length + 1), .slice (some ⟨gb, 0, none⟩) (L.length + 1) (L.length + 1)] 82)).alloc (.cells #[.slice none 0 0] 30)).alloc (.cells #[.slice (some ⟨g, 0, none⟩) L.length c1, .slice (some ⟨gs, 0, none⟩) (L.length + 1) (L.length + 1), .slice (some ⟨gf, 0, none⟩) (L.length + 1) (L.length + 1), .slice (some ⟨gb, 0, none⟩) (L.length + 1) (L.length + 1)] 82)).alloc (.cells #[.int .i64 d] 3)) := ⟨_, rfl⟩
  rw [← hW0] at c7 f7 cd hz0 HP3 hB0 ⊢
  clear hW0 k0 k1 k2 k3 HPS HB1 ME
  refine range_seq (F := Fence.wide) (n := 5) rfl (by decide) (gf := 145) (lb := #[.pointer (some ⟨u1.heap.size + 1 + 1, 0, none⟩), .pointer (some ⟨u1.heap.size + 1 + 1 + 1, 0, none⟩)]) rfl trivial (enters_of Try.func145 (by kernel_rfl) rfl)
    (firstLines_seq W0 L HP3.out HOK.out d HQ1.out cd (u1.heap.size + 1) (by omega) (by have := PBL.out; omega) (by have := PBL.out; omega) (by have := PBL.out; omega) (by have := PBL.out; omega) (by omega)) (fun h k => KB.trans h k) (KB.b (Nat.le_refl _)) (Below.refl _ _) (fun _ => rfl)
    (fun k W => (∃ A' cc, W.cell? ⟨u1.heap.size + 1, 0, none⟩ = some (.slice A' k cc) ∧ W.frozen? ⟨u1.heap.size + 1, 0, none⟩ = false ∧ OL W 3 W0.heap.size A' cc (ffA L d k) ∧ W0.heap.size ≤ W.heap.size) ∧ Below w.heap.size w W)
    (OwnFrom.and (Own.from (fun s' A' B' row hs hg hr => by
      obtain ⟨A2, c2, h1, h2, h3, h4⟩ := hs
      exact ⟨A2, c2, cell_kept h1 hg hr, (frozen_kept h1 hg hr).trans h2, h3.keptN hg hr, Nat.le_trans h4 hg.size⟩) _) (ownFrom_below (Nat.le_refl _) (by omega)))
    ⟨⟨none, 0, c7, f7, OL.nil _ _ _, Nat.le_refl _⟩, hB0⟩
    (fun k => { tmps := #[.slice A L.length c, .int .i64 d, undef, undef, .slice none 0 0, .pointer (some ⟨u1.heap.size, 0, none⟩), .bool true, .pointer (some ⟨u1.heap.size + 1, 0, none⟩), undef, .int .i64 (((fpS L d (k + 1) : Nat) : Int) - 1), .tuple #[.agg #[.slice (some ⟨g, 0, none⟩) L.length c1, .slice (some ⟨gs, 0, none⟩) (L.length + 1) (L.length + 1), .slice (some ⟨gf, 0, none⟩) (L.length + 1) (L.length + 1), .slice (some ⟨gb, 0, none⟩) (L.length + 1) (L.length + 1)], .bool true], .slice A L.length c, .tuple #[.agg #[.slice (some ⟨g, 0, none⟩) L.length c1, .slice (some ⟨gs, 0, none⟩) (L.length + 1) (L.length + 1), .slice (some ⟨gf, 0, none⟩) (L.length + 1) (L.length + 1), .slice (some ⟨gb, 0, none⟩) (L.length + 1) (L.length + 1)], .bool true], .agg #[.slice (some ⟨g, 0, none⟩) L.length c1, .slice (some ⟨gs, 0, none⟩) (L.length + 1) (L.length + 1), .slice (some ⟨gf, 0, none⟩) (L.length + 1) (L.length + 1), .slice (some ⟨gb, 0, none⟩) (L.length + 1) (L.length + 1)], .bool true, .bool true, .bool false, .bool false, .int .i64 d, .bool true, .bool false, .bool false, .agg #[.slice (some ⟨g, 0, none⟩) L.length c1, .slice (some ⟨gs, 0, none⟩) (L.length + 1) (L.length + 1), .slice (some ⟨gf, 0, none⟩) (L.length + 1) (L.length + 1), .slice (some ⟨gb, 0, none⟩) (L.length + 1) (L.length + 1)], .int .i64 d, .func (.func 145) #[] #[.pointer (some ⟨u1.heap.size + 1 + 1, 0, none⟩), .pointer (some ⟨u1.heap.size + 1 + 1 + 1, 0, none⟩)], .int .i64 (((fpS L d k : Nat) : Int) - 1), .int .i64 (((fpS L d (k + 1) : Nat) : Int) - 1), undef, undef, undef, undef, undef], defers := [] }) ?assign ?body ?done
  case assign =>
    intro lp k W K hk hK
    gi_wp2
    exact hK
  case body =>
    rintro lp k W hk ⟨⟨A2, cc, c7, f7, hol, hzW⟩, hB⟩
    have hd : (1 : Nat) ≤ 5 - 1 - 1 := by decide
    have hkl := nFF_le (L := L) (d := d)
    have hkl2 : k ≤ 1000 := by omega
    have hl := hide (ffA_len (L := L) (d := d) (k := k)).symm
    have SN := hide (show ffA L d (k + 1) = ffA L d k ++ [((fpS L d (k + 1) : Nat) : Int) - 1] from rfl)
    obtain ⟨y, hy⟩ : ∃ y, y = ((fpS L d (k + 1) : Nat) : Int) - 1 := ⟨_, rfl⟩
    rw [← hy] at SN ⊢
    obtain ⟨x, hx⟩ : ∃ y, y = ((fpS L d k : Nat) : Int) - 1 := ⟨_, rfl⟩
    rw [← hx]
    have hf7 := ((bcell (bl_alloc (bl_refl W) (.cells #[.int .i64 y] 3))).2 (u1.heap.size + 1) 0 (by omega)).trans f7
    have HOL := hide hol
    clear hy hx hol
    gi_wp2_with (gi_at_builtin; go_loud (refine wpListIn_append_int rfl (.tmp 27) (.tmp 29) _ rfl 3 i0 Try.underlying30 hi0 jz0 jz1 jz2 W0.heap.size A2 cc k (ffA L d k) rfl hl.out (HOL.out.alloc _) W.heap.size y rfl (by simp) (by omega) (by simp; omega) ?_); intro A' c' w' hol' hb' hg'; have bg := box_grown (HOL.out.alloc _) hl.out hg' (show u1.heap.size + 1 < W0.heap.size by omega) (keep_alloc c7 _); have c7' := bg.1; have f7' := bg.2.trans hf7)
    have hgg : (W.alloc (.cells #[.int .i64 y] 3)).grownBy w' (Value.slice A2 (ffA L d k).length cc).ownBlock := by rw [← hl.out]; exact hg'
    have hzz := hg'.size
    simp at hzz
    have hBW : Below w.heap.size w w' := (bl_alloc hB _).trans (hb'.mono (by omega))
    exact ⟨(((ko_alloc (ko_refl W) _).trans (ko_grownL (HOL.out.alloc _) hgg)).trans (KeepsOthers.setCell _ _ _)).from _, ((KB.below ((Below.refl W0.heap.size W).alloc hzW _)).trans (KB.below hb')).set 0 _, ⟨A', c', World.cell?_setCell_same' _ _ _ (by rw [c7']; rfl), by rw [World.frozen?_setCell]; exact f7', by rw [SN.out]; exact hol'.box (by omega) _, by simp; omega⟩, bl_set hBW (show w.heap.size ≤ u1.heap.size + 1 by omega) _⟩
  case done =>
    rintro D W hD ⟨⟨A2, cc, c7, f7, hol, hzW⟩, hB⟩ hK
    have hl := hide (ffA_len (L := L) (d := d) (k := nFF L d)).symm
    obtain ⟨N, hN⟩ : ∃ N, N = nFF L d := ⟨_, rfl⟩
    rw [← hN] at c7 hol hl ⊢
    have HN := hide hN
    clear hN
    gi_wp2
    refine ⟨by simp, .inl ⟨_, _, rfl, run_takeDeferred hK, ?_⟩⟩
    have hol' : OL _ 3 W0.heap.size A2 cc (ffA L d N) := hol.keptN (grownBy_putObj' W D (.deferred none)) (fun r e => by cases e; exact ⟨_, hK, rfl⟩)
    refine ⟨.slice A2 N cc, by simp [results, Try.results59, go_sem], ?_⟩
    rw [← HN.out]
    exact ⟨A2, cc, by rw [← hl.out], hol'.more (B' := w.heap.size) (by omega), hB.trans (belowK_b (n₀ := w.heap.size) (w := W0) (by omega) _ D _ _ hD hK rfl rfl)⟩
end Go.Proofs.Ytmncdpiojhgcdaa
