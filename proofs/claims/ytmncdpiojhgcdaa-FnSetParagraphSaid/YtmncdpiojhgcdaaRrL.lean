/- The laws' helpers on slices of slices of integers. -/
import Derived.Deep.RegionWith
import Derived.Test.YtmncdpiojhgcdaaRr
namespace Go.Proofs.Ytmncdpiojhgcdaa
open Go.ChangeShapes Go.WideShapes Go.ChangeAt Go.RowKit
set_option linter.unusedVariables false
set_option linter.unusedSimpArgs false

/-- A slice that reads as slices of integers. -/
def RL (w : World) (A : Option Addr) (S : List (List Int)) : Prop :=
  ∀ i, i < S.length → ∃ b o A1 c1, A = some ⟨b, o, none⟩ ∧ b < w.heap.size ∧ w.cell? ⟨b, o + i, none⟩ = some (.slice A1 (lgR S i).length c1) ∧ IL w A1 (lgR S i).length (lgR S i)
theorem RR.at_ {w : World} {B c : Nat} {A : Option Addr} {V : List Value} {S : List (List Int)} (h : RR w B A c V S) {i : Nat} (hi : i < S.length) :
    ∃ b A1 c1, A = some ⟨b, 0, none⟩ ∧ b < w.heap.size ∧ w.cell? ⟨b, 0 + i, none⟩ = some (.slice A1 (lgR S i).length c1) ∧ vgR V i = .slice A1 (lgR S i).length c1 ∧ OL w 3 B A1 c1 (lgR S i) := by
  obtain ⟨A1, c1, e, ho⟩ := h.2.1.own i hi
  rcases h.1.2 with ⟨_, h0⟩ | ⟨g, cap, cur, h1, _, h3, _⟩
  · omega
  · injection h1 with h1 _ h6
    subst h1 h6
    refine ⟨g, A1, c1, rfl, (Array.getElem?_eq_some_iff.1 h3).1, ?_, e, ho⟩
    have := World.ownsRow.cellAt h.1 i (by omega)
    have hv : i < V.length := by rw [h.2.1.len]; exact hi
    rw [Nat.zero_add, this, ← e]
    simp [vgR, List.getElem?_eq_getElem hv]
theorem RR.reads {w : World} {B c : Nat} {A : Option Addr} {V : List Value} {S : List (List Int)} (h : RR w B A c V S) : RL w A S := fun i hi => by
  obtain ⟨b, A1, c1, e1, e2, e3, _, ho⟩ := h.at_ hi
  exact ⟨b, 0, A1, c1, e1, e2, e3, ho.reads⟩
/-- The numbers before the i-th list. -/
def totR (S : List (List Int)) : Nat → Nat
  | 0 => 0
  | i + 1 => totR S i + (lgR S i).length
theorem totR_le {S : List (List Int)} {b : Nat} (h : ∀ i, i < S.length → (lgR S i).length ≤ b) : ∀ k, k ≤ S.length → totR S k ≤ k * b
  | 0, _ => by simp [totR]
  | k + 1, hk => by
    have h1 := totR_le h k (by omega)
    have h2 := h k (by omega)
    simp only [totR]
    rw [Nat.succ_mul]
    omega
theorem lgR_set {S : List (List Int)} {i j : Nat} {l : List Int} (hj : j < S.length) : lgR (S.set i l) j = if i = j then l else lgR S j := by
  unfold lgR
  rw [List.getElem?_set]
  by_cases e : i = j
  · subst e; simp [hj]
  · simp [e]
/-- One of the slices turned. -/
theorem RR.mark {w w' : World} {B c p c1 : Nat} {A A1 : Option Addr} {V : List Value} {S : List (List Int)} {l : List Int} (h : RR w B A c V S) (hp : p < S.length) (e : vgR V p = .slice A1 (lgR S p).length c1) (hl : l.length = (lgR S p).length)
    (ho : OL w' 3 B A1 c1 l) (hg : w.grownBy w' (Value.slice A1 (lgR S p).length c1).ownBlock) : RR w' B A c V (S.set p l) := by
  have far : ∀ k, k < w.heap.size → (vgR V p).ownBlock ≠ some k → w'.heap[k]? = w.heap[k]? := fun k h1 h2 => hg.block k h1 (fun q => h2 (by rw [e]; exact q.symm))
  refine ⟨?_, ⟨by rw [List.length_set]; exact h.2.1.len, fun i hi => ?_, fun i j hij hj => ?_⟩, fun i hi => ?_⟩
  · rw [List.length_set]
    exact own_blk h.1 (fun k q => far k (h.lt k q).2 (h.2.2 p hp k q))
  · rw [List.length_set] at hi
    rw [lgR_set hi]
    by_cases q : p = i
    · subst q
      rw [if_pos rfl]
      exact ⟨A1, c1, by rw [e, hl], ho⟩
    · rw [if_neg q]
      obtain ⟨A2, c2, e2, h2⟩ := h.2.1.own i hi
      refine ⟨A2, c2, e2, own_blk h2 (fun k r => far k (h2.own_lt k r).2 (fun r2 => ?_))⟩
      have r' : (vgR V i).ownBlock = some k := by rw [e2]; exact r
      rcases (by omega : p < i ∨ i < p) with z | z
      · exact h.2.1.dis p i z hi k r2 r'
      · exact h.2.1.dis i p z hp k r' r2
  · rw [List.length_set] at hj
    exact h.2.1.dis i j hij hj
  · rw [List.length_set] at hi ⊢
    exact h.2.2 i hi

theorem eqIntSS_l (w : World) (A C : Option Addr) (c d : Nat) (S : List (List Int)) (ha : RL w A S) (hb : RL w C S) (hn : S.length ≤ 1048576) (hl : ∀ i, i < S.length → (lgR S i).length ≤ 2000000) :
    Calls Try.prog 37 #[.slice A S.length c, .slice C S.length d] w fun e w' => e = .returned (.bool true) ∧ ∃ j, w.drewN j = w' := by
  have HA := hide ha
  have HC := hide hb
  have HL := hide hl
  clear ha hb hl
  go_enter Try.func37, Try.ntmps37
  go_wp2
  go_loopw [5] (fun i u => ∃ p j : Nat, p ≤ S.length ∧ i = .int .i64 p ∧ u = w.drewN j) (fun i _ => S.length - (intOf i).toNat)
  case atStart => exact ⟨0, 0, by omega, rfl, rfl⟩
  case round =>
    obtain ⟨p, j, hp, rfl, rfl⟩ := hrel
    by_cases hlt : p < S.length
    · obtain ⟨b, o, A1, c1, rfl, hb0, c0, i0⟩ := HA.out p hlt
      obtain ⟨b', o', A2, c2, rfl, hb0', d0, i1⟩ := HC.out p hlt
      have hle := HL.out p hlt
      obtain ⟨R, hR⟩ : ∃ R, R = lgR S p := ⟨_, rfl⟩
      rw [← hR] at c0 d0 i0 i1 hle
      have I0 := hide i0
      have I1 := hide i1
      have CE := hide (fun (u : World) (x : IL u A1 R.length R) (y : IL u A2 R.length R) => eqIntS_l u A1 A2 _ _ c1 c2 R R x y (by omega) (by omega))
      clear i0 i1 hR
      go_wp2
      go_region_with (go_at_call 34; refine (CE.out _ (by exact I0.out) (by exact I1.out)).mono ?_; rintro e u1 ⟨rfl, j1, rfl⟩; simp only [decide_true])
      all_goals
        go_wp2
        go_roundw
        case rel => exact ⟨p + 1, _, by omega, by go_num, rfl⟩
        case measure => simp [intOf]; omega
    · go_wp2
      go_ret
      exact ⟨rfl, _, rfl⟩
theorem markIntSS_l (w : World) (B : Nat) (A : Option Addr) (c : Nat) (V : List Value) (S : List (List Int)) (z : Int) (ha : RR w B A c V S) (hn : S.length ≤ 1048576) (hl : ∀ i, i < S.length → (lgR S i).length ≤ 2000000) (ht : ∀ k, k ≤ S.length → totR S k ≤ 900000) (z0 : 0 ≤ z) (z1 : z ≤ 1000) :
    Calls Try.prog 40 #[.slice A S.length c, .int .i64 z] w fun e w' => e = .returned (.int .i64 (z + totR S S.length)) ∧ Below B w w' ∧ ∃ T, T.length = S.length ∧ (∀ i, i < S.length → lgR T i = upto (z + totR S i) (lgR S i).length) ∧ RR w' B A c V T := by
  have HA := hide ha
  have HL := hide hl
  have HT := hide ht
  clear ha hl ht
  go_enter Try.func40, Try.ntmps40
  go_wp2
  go_loopw [1, 5] (fun k i u => ∃ p : Nat, p ≤ S.length ∧ k = .int .i64 (z + totR S p) ∧ i = .int .i64 p ∧ Below B w u ∧ w.heap.size ≤ u.heap.size ∧ ∃ T, T.length = S.length ∧ (∀ i, i < S.length → lgR T i = if i < p then upto (z + totR S i) (lgR S i).length else lgR S i) ∧ RR u B A c V T) (fun _ i _ => S.length - (intOf i).toNat)
  case atStart => exact ⟨0, by omega, by simp [totR], rfl, Below.refl _ _, Nat.le_refl _, S, rfl, fun i _ => by rw [if_neg (by omega)], HA.out⟩
  case round =>
    obtain ⟨p, hp, rfl, rfl, hbl, hsz, T, hT, hTi, hrr⟩ := hrel
    have tb := HT.out p hp
    have HTI := hide hTi
    have HRR := hide hrr
    have HBL := hide hbl
    clear hTi hrr hbl
    by_cases hlt : p < S.length
    · have ep := HTI.out p hlt
      rw [if_neg (by omega)] at ep
      obtain ⟨b, A1, c1, rfl, hb0, c0, e1, h1⟩ := HRR.out.at_ (i := p) (by omega)
      have hle := HL.out p hlt
      have tb2 := HT.out (p + 1) (by omega)
      have tq : totR S (p + 1) = totR S p + (lgR S p).length := rfl
      rw [ep] at c0 e1 h1
      rw [Nat.zero_add] at c0
      have HE1 := hide e1
      obtain ⟨R, hR⟩ : ∃ R, R = lgR S p := ⟨_, rfl⟩
      have HR := hide hR
      rw [← hR] at c0 h1 hle tq HE1
      have H1 := hide h1
      have HTQ := hide tq
      obtain ⟨y, hy⟩ : ∃ y : Int, y = z + (totR S p : Int) := ⟨_, rfl⟩
      have HY := hide hy
      rw [← hy]
      have HMK := hide (markIntS_l wr 3 B A1 c1 R y h1 (by omega) (by omega) (by omega))
      clear h1 e1 hR hy tq ep
      go_wp2_with fail
      refine HMK.out.mono ?_
      rintro e u1 ⟨rfl, ho1, hg1⟩
      have HO1 := hide ho1
      have HG1 := hide hg1
      clear ho1 hg1 HMK
      go_wp2
      go_roundw
      case rel =>
        have hs1 := HG1.out.size
        have eR : lgR T p = lgR S p := by have := HTI.out p hlt; rwa [if_neg (by omega)] at this
        refine ⟨p + 1, by omega, by rw [HY.out, HTQ.out]; go_num, by go_num, HBL.out.grown HG1.out (by have := (HRR.out.lt b rfl).1; omega) (fun k hk => (H1.out.own_lt k hk).1), by omega, T.set p (upto y R.length), by rw [List.length_set]; exact hT, fun i hi => ?_, HRR.out.mark (by omega) (by rw [eR, ← HR.out]; exact HE1.out) (by rw [upto_len, eR, ← HR.out]) HO1.out (by rw [eR, ← HR.out]; exact HG1.out)⟩
        rw [lgR_set (by omega), HTI.out i hi]
        by_cases q : p = i
        · subst q
          rw [if_pos rfl, if_pos (by omega), HY.out, HR.out]
        · rw [if_neg q]
          by_cases q2 : i < p
          · rw [if_pos q2, if_pos (by omega)]
          · rw [if_neg q2, if_neg (by omega)]
      case measure => simp [intOf]; omega
    · have hpe : p = S.length := by omega
      subst hpe
      go_wp2
      go_ret
      exact ⟨rfl, HBL.out, T, hT, fun i hi => by rw [HTI.out i hi, if_pos hi], HRR.out⟩
theorem heldIntSS_l (w : World) (A : Option Addr) (c n : Nat) (S T : List (List Int)) (z : Int) (hn' : n = S.length) (hT : T.length = S.length) (hTi : ∀ i, i < S.length → lgR T i = upto (z + totR S i) (lgR S i).length) (ha : RL w A T) (hn : S.length ≤ 1048576) (hl : ∀ i, i < S.length → (lgR S i).length ≤ 2000000) (ht : ∀ k, k ≤ S.length → totR S k ≤ 900000) (z0 : 0 ≤ z) (z1 : z ≤ 1000) :
    Calls Try.prog 41 #[.slice A n c, .int .i64 z] w fun e w' => e = .returned (.int .i64 (z + totR S S.length)) ∧ w = w' := by
  subst hn'
  have HA := hide ha
  have HL := hide hl
  have HT := hide ht
  have HTI := hide hTi
  clear ha hl ht hTi
  go_enter Try.func41, Try.ntmps41
  go_wp2
  go_loop [1, 5] (fun k i => ∃ p : Nat, p ≤ S.length ∧ k = .int .i64 (z + totR S p) ∧ i = .int .i64 p) (fun _ i => S.length - (intOf i).toNat)
  case atStart => exact ⟨0, by omega, by simp [totR], rfl⟩
  case round =>
    obtain ⟨p, hp, rfl, rfl⟩ := hrel
    have tb := HT.out p hp
    by_cases hlt : p < S.length
    · obtain ⟨b, o, A1, c1, rfl, hb0, c0, i0⟩ := HA.out p (by omega)
      have hle := HL.out p hlt
      have tb2 := HT.out (p + 1) (by omega)
      have tq : totR S (p + 1) = totR S p + (lgR S p).length := rfl
      rw [HTI.out p hlt] at c0 i0
      rw [upto_len] at c0 i0
      obtain ⟨m, hm⟩ : ∃ m, m = (lgR S p).length := ⟨_, rfl⟩
      rw [← hm] at c0 i0 hle tq
      have HTQ := hide tq
      obtain ⟨y, hy⟩ : ∃ y : Int, y = z + (totR S p : Int) := ⟨_, rfl⟩
      have HY := hide hy
      rw [← hy] at i0 ⊢
      have HMK := hide (heldIntS_l w A1 c1 m y i0 (by omega) (by omega) (by omega))
      have q1 : ¬ (y + (m : Int) < 0) := by omega
      clear i0 hm hy tq
      go_wp2_with fail
      refine HMK.out.mono ?_
      rintro e w' ⟨rfl, rfl⟩
      go_wp2
      go_round
      case rel => exact ⟨p + 1, by omega, by rw [HY.out, HTQ.out]; go_num, by go_num⟩
      case measure => simp [intOf]; omega
    · have hpe : p = S.length := by omega
      subst hpe
      go_wp2
      go_ret
      exact ⟨rfl, rfl⟩
end Go.Proofs.Ytmncdpiojhgcdaa
