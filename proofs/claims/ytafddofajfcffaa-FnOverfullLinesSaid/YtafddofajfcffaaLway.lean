/- leastWay in the program: the least way over places that come in a known order. -/
import Derived.Test.YtafddofajfcffaaRb
import Derived.Test.YtafddofajfcffaaRa
import Derived.WalkKit
import Derived.OwnWalkIn
import Derived.TacticsInMore
import Derived.LoopNIn
import Derived.LoopIn
import Derived.Stop.RegionWithIn
namespace Go.Proofs.Ytafddofajfcffaa
open Go.ChangeShapes Go.WideShapes Go.ChangeAt Go.RowKit Go.Shelf
set_option linter.unusedVariables false
attribute [local go_sem] Oper.semAt_some

/-- The search after k places. -/
def lwS (C : Int → Int → Int → Int × Bool) (cnt : Bool) (start : Int) (pl : Nat → Int × Bool) : Nat → List Wy × Nat
  | 0 => ([⟨start, 0, 0, 0⟩], 0)
  | k + 1 => ((lwS C cnt start pl k).1 ++ extR C cnt (pl k).1 (lwS C cnt start pl k).1 (lwS C cnt start pl k).2, if (pl k).2 = true then (lwS C cnt start pl k).1.length else (lwS C cnt start pl k).2)
section
variable (C : Int → Int → Int → Int × Bool) (cnt : Bool) (start : Int) (pl : Nat → Int × Bool) (N : Nat)
def lwE : List Wy := (lwS C cnt start pl N).1.drop (lwS C cnt start pl N).2
def lwB : Wy := minW (tg (lwE C cnt start pl N) 0) ((lwE C cnt start pl N).drop 1)
def lwR : List Int × Int × Bool := if lwE C cnt start pl N = [] then ([], 0, false) else (endL (lwS C cnt start pl N).1 (lwB C cnt start pl N).p.toNat (lwB C cnt start pl N), (lwB C cnt start pl N).c, true)
end
theorem lwS_mono {C : Int → Int → Int → Int × Bool} {cnt : Bool} {start : Int} {pl : Nat → Int × Bool} {k : Nat} : (lwS C cnt start pl k).1.length ≤ (lwS C cnt start pl (k + 1)).1.length := by simp [lwS]
theorem lwS_le {C : Int → Int → Int → Int × Bool} {cnt : Bool} {start : Int} {pl : Nat → Int × Bool} {k : Nat} : ∀ {m : Nat}, k ≤ m → (lwS C cnt start pl k).1.length ≤ (lwS C cnt start pl m).1.length
  | 0, h => by obtain rfl : k = 0 := by omega
               exact Nat.le_refl _
  | m + 1, h => by
    rcases (by omega : k = m + 1 ∨ k ≤ m) with e | e
    · rw [e]; exact Nat.le_refl _
    · exact Nat.le_trans (lwS_le e) lwS_mono
theorem lwS_pos {C : Int → Int → Int → Int × Bool} {cnt : Bool} {start : Int} {pl : Nat → Int × Bool} : ∀ {k : Nat}, 0 < (lwS C cnt start pl k).1.length ∧ (lwS C cnt start pl k).2 ≤ (lwS C cnt start pl k).1.length
  | 0 => by simp [lwS]
  | k + 1 => by
    have := lwS_pos (C := C) (cnt := cnt) (start := start) (pl := pl) (k := k)
    simp only [lwS, List.length_append]
    split <;> omega
abbrev encW (pl : Nat → Int × Bool) (k : Nat) : Array Value := #[.int .i64 (pl k).1, .bool (pl k).2]
theorem TO.keptN {α : Type} [Rec α] {w w' : World} {e : TypeId} {B c : Nat} {A : Option Addr} {L : List α} {row : Option Nat} (h : TO w e B A c L) (hg : w.grownBy w' row) (hr : ∀ r, row = some r → ∃ o : Obj, w.heap[r]? = some o ∧ o.isCells = false) : TO w' e B A c L :=
  h.kept hg (fun k hk e => by
    obtain ⟨o, ho, hc⟩ := hr k e
    rcases h.2 with ⟨h0, _⟩ | ⟨g, cap, cur, h1, h2, h3, _⟩
    · rw [h0] at hk; cases hk
    · rw [h1] at hk
      cases hk
      rw [h3] at ho
      cases ho
      cases hc)
theorem WSt.keptN {u u' : World} {B S act : Nat} {ws : List Wy} {cnt : Bool} {row : Option Nat} (h : WSt u B S ws act cnt) (hg : u.grownBy u' row) (hr : ∀ r, row = some r → ∃ o : Obj, u.heap[r]? = some o ∧ o.isCells = false) : WSt u' B S ws act cnt := by
  obtain ⟨g, c, h1, h2, h3⟩ := h.own
  exact ⟨h.hB, Nat.lt_of_lt_of_le h.hS hg.size, cell_kept h.c1 hg hr, (frozen_kept h.c1 hg hr).trans h.f1, cell_kept h.c2 hg hr, (frozen_kept h1 hg hr).trans h.f0, g, c, cell_kept h1 hg hr, h2, h3.keptN hg hr⟩
theorem keeps_belowL {W W' : World} (h : Below W.heap.size W W') : KeepsOthers W W' := ⟨h.size, fun k o hk _ => (h.block k (Array.getElem?_eq_some_iff.1 hk).1).trans hk⟩
/-- A store into a search: the first active way. -/
theorem WSt.setAct {u : World} {B S act m : Nat} {ws : List Wy} {cnt : Bool} (h : WSt u B S ws act cnt) : WSt (u.setCell ⟨S, 1, none⟩ (.int .i64 m)) B S ws m cnt := by
  obtain ⟨g, c, h1, h2, h3⟩ := h.own
  refine ⟨h.hB, by simpa [World.setCell] using h.hS, World.cell?_setCell_same' _ _ _ (by rw [h.c1]; rfl), by rw [World.frozen?_setCell]; exact h.f1, keep_set h.c2 (by intro e; cases e) _, by rw [World.frozen?_setCell]; exact h.f0, g, c, keep_set h1 (by intro e; cases e) _, h2, ?_⟩
  exact h3.kept (row := some S) (on_set' (World.grownBy.refl _ _) (.inl rfl) _) (fun k hk e => by
    cases e
    have : (Value.slice (some ⟨g, 0, none⟩) ws.length c).ownBlock = some g := rfl
    rw [this] at hk
    cases hk
    exact h2 rfl)
set_option maxRecDepth 100000 in
set_option maxHeartbeats 4000000 in
theorem leastWay_i (w : World) (start : Int) (gf F : Nat) (lb qs : Array Value) (C : Int → Int → Int → Int × Bool) (cnt : Bool) (pl : Nat → Int × Bool) (N : Nat)
    (hseq : SeqN Fence.wide 4 Try.prog gf lb (encW pl) (Below w.heap.size) N w) (hent : ∀ args w, (callFunc gf args).run Try.prog w = .ok (.enter gf args) w)
    (hext : ∀ k u, k < N → Below w.heap.size w u → WSt u (w.heap.size + 1) (w.heap.size + 1 + 1) (lwS C cnt start pl k).1 (lwS C cnt start pl k).2 cnt →
      Calls Try.prog 138 #[.pointer (some ⟨w.heap.size + 1 + 1, 0, none⟩), .int .i64 (pl k).1, .func (.func F) #[] qs] u fun e u' => (∃ v, e = .returned v) ∧ WSt u' (w.heap.size + 1) (w.heap.size + 1 + 1) ((lwS C cnt start pl k).1 ++ extR C cnt (pl k).1 (lwS C cnt start pl k).1 (lwS C cnt start pl k).2) (lwS C cnt start pl k).2 cnt ∧ Below (w.heap.size + 1) u u' ∧ KeepsOthers u u')
    (hlen : (lwS C cnt start pl N).1.length ≤ 1000000) (hok : lwE C cnt start pl N ≠ [] → ∃ n, n ≤ 1000000 ∧ OKw (lwS C cnt start pl N).1 n (lwB C cnt start pl N)) :
    Calls Try.prog 98 #[.int .i64 start, .func (.func gf) #[] lb, .func (.func F) #[] qs, .bool cnt] w fun e w' => ∃ A c, e = .returned (.tuple #[.slice A (lwR C cnt start pl N).1.length c, .int .i64 (lwR C cnt start pl N).2.1, .bool (lwR C cnt start pl N).2.2]) ∧ OL w' 3 w.heap.size A c (lwR C cnt start pl N).1 ∧ Below w.heap.size w w' := by
  have HEXT := hide hext
  have HOK := hide hok
  clear hext hok
  refine (callsIn_wide (n := 5)).1 ?_
  refine callsIn_of_wp_marks Try.func98 rfl trivial ?_ rfl
  simp only [Try.ntmps98, List.size_toArray, List.length_cons, List.length_nil, Nat.reduceAdd, Nat.reduceSub, Array.replicate_succ, Array.replicate_zero, List.push_toArray, List.append_toArray, List.nil_append, List.cons_append]
  gi_wp2
  have c6 : (((w.alloc (.cells #[.func (.func F) #[] qs] 104)).alloc (.cells #[.int .i64 start, .int .i64 0, .int .i64 0, .int .i64 0] 152)).alloc (.cells #[.slice (some ⟨w.heap.size + 1, 0, none⟩) 1 1, .int .i64 0, .bool cnt] 155)).cell? ⟨w.heap.size, 0, none⟩ = some (.func (.func F) #[] qs) := by simp [go_sem]
  have WS0 : WSt (((w.alloc (.cells #[.func (.func F) #[] qs] 104)).alloc (.cells #[.int .i64 start, .int .i64 0, .int .i64 0, .int .i64 0] 152)).alloc (.cells #[.slice (some ⟨w.heap.size + 1, 0, none⟩) 1 1, .int .i64 0, .bool cnt] 155)) (w.heap.size + 1) (w.heap.size + 1 + 1) [⟨start, 0, 0, 0⟩] 0 cnt := by
    refine ⟨by omega, by simp, by simp [go_sem], by simp [go_sem], by simp [go_sem], by simp [go_sem], w.heap.size + 1, 1, by simp [go_sem], by omega, ?_⟩
    have := World.ownsRow_lit (base := w.heap.size + 1) (e := 152) (size := 4) (w.alloc (.cells #[.func (.func F) #[] qs] 104)) #[.int .i64 start, .int .i64 0, .int .i64 0, .int .i64 0] 1 (by simp) (by unfold maxLen; omega) (by simp)
    have h1 : TO ((w.alloc (.cells #[.func (.func F) #[] qs] 104)).alloc (.cells #[.int .i64 start, .int .i64 0, .int .i64 0, .int .i64 0] 152)) 152 (w.heap.size + 1) (some ⟨w.heap.size + 1, 0, none⟩) 1 [(⟨start, 0, 0, 0⟩ : Wy)] := by
      unfold TO
      rw [show Rec.size Wy = 4 from rfl]
      simpa [Rec.cells] using this
    exact h1.alloc _
  have hz0 : (((w.alloc (.cells #[.func (.func F) #[] qs] 104)).alloc (.cells #[.int .i64 start, .int .i64 0, .int .i64 0, .int .i64 0] 152)).alloc (.cells #[.slice (some ⟨w.heap.size + 1, 0, none⟩) 1 1, .int .i64 0, .bool cnt] 155)).heap.size = w.heap.size + 3 := by simp
  have hB0 : Below w.heap.size w (((w.alloc (.cells #[.func (.func F) #[] qs] 104)).alloc (.cells #[.int .i64 start, .int .i64 0, .int .i64 0, .int .i64 0] 152)).alloc (.cells #[.slice (some ⟨w.heap.size + 1, 0, none⟩) 1 1, .int .i64 0, .bool cnt] 155)) := by
    repeat' (first | exact bl_refl _ | refine bl_alloc ?_ _)
  obtain ⟨W0, hW0⟩ : ∃ W0, W0 = (((w.alloc (.cells #[.func (.func F) #[] qs] 104)).alloc (.cells #[.int .i64 start, .int .i64 0, .int .i64 0, .int .i64 0] 152)).alloc (.cells #[.slice (some ⟨w.heap.size + 1, 0, none⟩) 1 1, .int .i64 0, .bool cnt] 155)) := ⟨_, rfl⟩
  rw [← hW0] at c6 WS0 hz0 hB0 ⊢
  clear hW0
  refine range_seq (F := Fence.wide) (n := 5) rfl (by decide) (gf := gf) (lb := lb) rfl trivial hent hseq belowK_t (belowK_b (by omega)) hB0 (fun _ => rfl)
    (fun k W => (W.cell? ⟨w.heap.size, 0, none⟩ = some (.func (.func F) #[] qs) ∧ WSt W (w.heap.size + 1) (w.heap.size + 1 + 1) (lwS C cnt start pl k).1 (lwS C cnt start pl k).2 cnt) ∧ Below w.heap.size w W)
    (OwnFrom.and (Own.from (fun s' A' B' row hs hg hr => ⟨cell_kept hs.1 hg hr, hs.2.keptN hg hr⟩) _) (ownFrom_below (Nat.le_refl _) (by omega)))
    ⟨⟨c6, WS0⟩, hB0⟩
    (fun k => { tmps := #[.int .i64 start, .func (.func gf) #[] lb, .func (.func F) #[] qs, .bool cnt, undef, undef, .pointer (some ⟨w.heap.size, 0, none⟩), undef, .slice none 0 0, .int .i64 0, .bool false, .pointer (some ⟨w.heap.size + 1 + 1, 0, none⟩), .int .i64 (pl k).1, .bool (pl k).2, undef, undef, undef, .int .i64 start, .agg #[.int .i64 start, .int .i64 0, .int .i64 0, .int .i64 0], .slice (some ⟨w.heap.size + 1, 0, none⟩) 1 1, .bool cnt, .agg #[.slice (some ⟨w.heap.size + 1, 0, none⟩) 1 1, .int .i64 0, .bool cnt], .func (.func gf) #[] lb, .int .i64 (pl k).1, .bool (pl k).2, undef, undef, undef, undef, undef, undef, undef, undef, undef, undef, undef, undef, undef, undef, undef, undef, undef, undef, undef, undef, undef, undef, undef], defers := [] }) ?assign ?body ?done
  case assign =>
    intro lp k W K hk hK
    gi_wp2
    exact hK
  case body =>
    rintro lp k W hk ⟨⟨c6, hws⟩, hB⟩
    have hd : (1 : Nat) ≤ 5 - 1 - 1 := by decide
    have EX := hide (HEXT.out k W hk hB hws)
    have LS := hide (show (lwS C cnt start pl (k + 1)) = ((lwS C cnt start pl k).1 ++ extR C cnt (pl k).1 (lwS C cnt start pl k).1 (lwS C cnt start pl k).2, if (pl k).2 = true then (lwS C cnt start pl k).1.length else (lwS C cnt start pl k).2) from rfl)
    obtain ⟨g, c, c0, _, _⟩ := hws.own
    obtain ⟨n1, hn1⟩ : ∃ n, n = (lwS C cnt start pl k).1.length := ⟨_, rfl⟩
    rw [← hn1] at c0 LS
    obtain ⟨fo, hfo⟩ : ∃ f, f = (pl k).2 := ⟨_, rfl⟩
    rw [← hfo] at LS ⊢
    clear hn1 hfo hws
    cases fo
    · have e1 := hide (show (lwS C cnt start pl (k + 1)).1 = _ by rw [LS.out])
      have e2 := hide (show (lwS C cnt start pl (k + 1)).2 = (lwS C cnt start pl k).2 by rw [LS.out]; rfl)
      clear LS
      gi_wp2_with (refine ⟨trivial, ?_⟩; gi_at_call 138; (with_reducible refine (CallsIn.inRound lp (callsIn_wide.2 EX.out)).mono ?_); rintro e W2 ⟨⟨v0, rfl⟩, hw2, hb2, hk2⟩)
      exact ⟨hk2.from _, hb2.mono (by omega), ⟨(hb2.cell (p := ⟨w.heap.size, 0, none⟩) (show w.heap.size < w.heap.size + 1 by omega)).trans c6, by rw [e1.out, e2.out]; exact hw2⟩, hB.trans (hb2.mono (by omega))⟩
    · have e1 := hide (show (lwS C cnt start pl (k + 1)).1 = _ by rw [LS.out])
      have e2 := hide (show (lwS C cnt start pl (k + 1)).2 = n1 by rw [LS.out]; rfl)
      clear LS
      gi_wp2_with ((refine ⟨trivial, ?_⟩; gi_at_call 138; (with_reducible refine (CallsIn.inRound lp (callsIn_wide.2 EX.out)).mono ?_); rintro e W2 ⟨⟨v0, rfl⟩, hw2, hb2, hk2⟩); have k1 := hw2.c1; have k2 := hw2.f1)
      have hb3 := hb2.setCell (p := ⟨w.heap.size + 1 + 1, 1, none⟩) (show w.heap.size + 1 ≤ w.heap.size + 1 + 1 by omega) (.int .i64 n1)
      exact ⟨(ko_set hk2 _ _).from _, hb3.mono (by omega), ⟨(hb3.cell (p := ⟨w.heap.size, 0, none⟩) (show w.heap.size < w.heap.size + 1 by omega)).trans c6, by rw [e1.out, e2.out]; exact hw2.setAct⟩, hB.trans (hb3.mono (by omega))⟩
  case done =>
    rintro D W hD ⟨⟨c6, hws⟩, hB⟩ hK
    obtain ⟨g, c, c0, hgS, hto⟩ := hws.own
    have c1 := hws.c1
    have HW := hide hws
    have hpos := lwS_pos (C := C) (cnt := cnt) (start := start) (pl := pl) (k := N)
    have ED := hide (show lwE C cnt start pl N = (lwS C cnt start pl N).1.drop (lwS C cnt start pl N).2 from rfl)
    have HR := hide (show lwR C cnt start pl N = if lwE C cnt start pl N = [] then ([], 0, false) else (endL (lwS C cnt start pl N).1 (lwB C cnt start pl N).p.toNat (lwB C cnt start pl N), (lwB C cnt start pl N).c, true) from rfl)
    have BD := hide (show lwB C cnt start pl N = minW (tg (lwE C cnt start pl N) 0) ((lwE C cnt start pl N).drop 1) from rfl)
    obtain ⟨R, hR⟩ : ∃ R, R = lwR C cnt start pl N := ⟨_, rfl⟩
    obtain ⟨E, hE⟩ : ∃ E, E = lwE C cnt start pl N := ⟨_, rfl⟩
    obtain ⟨x, hx⟩ : ∃ x, x = lwB C cnt start pl N := ⟨_, rfl⟩
    obtain ⟨ws, hws'⟩ : ∃ x, x = (lwS C cnt start pl N).1 := ⟨_, rfl⟩
    obtain ⟨act, hact⟩ : ∃ x, x = (lwS C cnt start pl N).2 := ⟨_, rfl⟩
    rw [← hR, ← hE, ← hx, ← hws'] at HR
    rw [← hE, ← hx] at BD
    rw [← hE, ← hws', ← hact] at ED
    rw [← hE, ← hx, ← hws'] at HOK
    rw [← hws', ← hact] at HW hpos
    rw [← hact] at c1
    rw [← hws'] at c0 hlen hto
    have HRR := hide hR
    clear hE hx hws' hact hws HEXT hseq hR
    have hEl : E.length = ws.length - act := by rw [ED.out, List.length_drop]
    rcases Nat.eq_zero_or_pos E.length with h0 | h0
    · have E0 := List.eq_nil_of_length_eq_zero h0
      have R0 := hide (show R = ([], 0, false) by rw [HR.out, if_pos E0])
      have hal : act = ws.length := by omega
      have HAL := hide hal
      have hcl : ws.length ≤ c := by
        obtain ⟨_, _, _, _, h, _⟩ := hto.form (by omega)
        exact h
      subst hal
      clear hEl E0 h0 HR ED BD HOK
      obtain ⟨n, hn⟩ : ∃ n, n = ws.length := ⟨_, rfl⟩
      rw [← hn] at c0 c1 hcl
      clear hn hto hpos
      gi_wp2
      all_goals
        refine ⟨by simp, .inl ⟨_, _, rfl, run_takeDeferred hK, ?_⟩⟩
        refine ⟨.tuple #[.slice none 0 0, .int .i64 0, .bool false], ?_, ⟨none, 0, by rw [← HRR.out, R0.out]; rfl, by rw [← HRR.out, R0.out]; exact OL.nil _ _ _, hB.trans (belowK_b (w := W0) (by omega) _ D _ _ hD hK rfl rfl)⟩⟩
        simp [results, Try.results98, go_sem]
    · obtain ⟨m, hm⟩ : ∃ m, m = E.length := ⟨_, rfl⟩
      obtain ⟨n, hn⟩ : ∃ n, n = ws.length := ⟨_, rfl⟩
      have hcl : ws.length ≤ c := by
        obtain ⟨_, _, _, _, h, _⟩ := hto.form (by omega)
        exact h
      obtain ⟨N', hN', hok⟩ := HOK.out (by intro h; rw [h] at h0; simp at h0)
      have R0 := hide (show R = (endL ws N' x, x.c, true) by
        rw [HR.out, if_neg (by intro h; rw [h] at h0; simp at h0), hok.p, Int.toNat_natCast])
      have TLE : TL W (some ⟨g, act * 4, none⟩) m E := by
        have h1 := hto.reads.sub (f := act) (t := ws.length) (by omega) (Nat.le_refl _)
        have h2 : (ws.drop act).take (ws.length - act) = ws.drop act := List.take_of_length_le (by rw [List.length_drop]; omega)
        rw [h2, ← ED.out, ← hEl, ← hm, Nat.zero_add] at h1
        exact h1
      have MF := hide (MinFunc_i W (some ⟨g, act * 4, none⟩) m (c - act) E TLE (by omega) (by omega))
      rw [← BD.out] at MF
      have e1 : n - act = m := by omega
      have CAST : (n : Int) - (act : Int) = (m : Int) := by omega
      have g0 : ((m : Int) == 0) = false := beq_eq_false_iff_ne.2 (by omega)
      have g1 : act ≤ n := by omega
      have g2 : n ≤ c := by omega
      have g3 : ¬ c = act := by omega
      rw [← hn] at c0
      have OKx := hide hok
      have HLN := hide hlen
      clear hok TLE hm hn hcl hEl HR ED BD HOK hlen hto hpos h0
      obtain ⟨x1, x2, x3, x4⟩ := x
      have R1 := hide (show R = (endL ws N' ⟨x1, x2, x3, x4⟩, x3, true) from R0.out)
      clear R0
      gi_wp2_with (refine ⟨trivial, ?_⟩; gi_at_call 139; (with_reducible refine (callsIn_wide.2 MF.out).mono ?_); rintro e u1 ⟨rfl, hb1⟩)
      have W1 := hide (HW.out.below hb1 (Nat.le_refl _))
      have K1 := (hb1.block D (Array.getElem?_eq_some_iff.1 hK).1).trans hK
      have B1 := hide (bl_call hb1 hB)
      have hz1 := hb1.size
      have W2 := hide (W1.out.alloc (.cells #[.int .i64 x1, .int .i64 x2, .int .i64 x3, .int .i64 x4] 152))
      have K2 := (Below.heap_alloc u1 (.cells #[.int .i64 x1, .int .i64 x2, .int .i64 x3, .int .i64 x4] 152) D (Array.getElem?_eq_some_iff.1 K1).1).trans K1
      have B2 := hide (bl_alloc B1.out (.cells #[.int .i64 x1, .int .i64 x2, .int .i64 x3, .int .i64 x4] 152))
      have EO := hide (fun (u : World) (h : WSt u (w.heap.size + 1) (w.heap.size + 1 + 1) ws act cnt) => endsOf_i u (w.heap.size + 1) (w.heap.size + 1 + 1) ws act N' cnt ⟨x1, x2, x3, x4⟩ h OKx.out HLN.out hN')
      have HU := hide (show Below w.heap.size w (u1.alloc (.cells #[.int .i64 x1, .int .i64 x2, .int .i64 x3, .int .i64 x4] 152)).drew from bl_drew B2.out)
      have k0 : (u1.alloc (.cells #[.int .i64 x1, .int .i64 x2, .int .i64 x3, .int .i64 x4] 152)).cell? ⟨u1.heap.size, 0, none⟩ = some (.int .i64 x1) := by simp [go_sem]
      have k1 : (u1.alloc (.cells #[.int .i64 x1, .int .i64 x2, .int .i64 x3, .int .i64 x4] 152)).cell? ⟨u1.heap.size, 1, none⟩ = some (.int .i64 x2) := by simp [go_sem]
      have k2 : (u1.alloc (.cells #[.int .i64 x1, .int .i64 x2, .int .i64 x3, .int .i64 x4] 152)).cell? ⟨u1.heap.size, 2, none⟩ = some (.int .i64 x3) := by simp [go_sem]
      have k3 : (u1.alloc (.cells #[.int .i64 x1, .int .i64 x2, .int .i64 x3, .int .i64 x4] 152)).cell? ⟨u1.heap.size, 3, none⟩ = some (.int .i64 x4) := by simp [go_sem]
      obtain ⟨U, hU⟩ : ∃ U, U = u1.alloc (.cells #[.int .i64 x1, .int .i64 x2, .int .i64 x3, .int .i64 x4] 152) := ⟨_, rfl⟩
      rw [← hU] at W2 K2 B2 HU k0 k1 k2 k3 ⊢
      clear hU W1 K1 B1 MF c0 c1 HW
      first | (gi_region_with (refine ⟨trivial, ?_⟩; gi_at_call 143; (with_reducible refine (callsIn_wide.2 (EO.out _ W2.out.drew)).mono ?_); rintro e u3 ⟨A3, c3, rfl, ho3, hb3⟩; have hb3 := bl_undrew hb3; have k2 := keep_cell hb3 k2)) | fail
      all_goals
        gi_wp2
        have hD2 := (Array.getElem?_eq_some_iff.1 K2).1
        have hK' := (hb3.block D hD2).trans K2
        refine ⟨by simp, .inl ⟨_, _, rfl, run_takeDeferred hK', ?_⟩⟩
        have ho4 : OL _ 3 w.heap.size A3 c3 (endL ws N' ⟨x1, x2, x3, x4⟩) := (ho3.kept (grownBy_putObj' u3 D (.deferred none)) (fun k hk e => by
          have h5 := (ho3.own_lt k hk).1
          cases e
          exact absurd hD2 (by have : U.drew.heap.size = U.heap.size := rfl
                               omega))).more (by have := HU.out.size
                                                 exact this)
        refine ⟨.tuple #[.slice A3 N' c3, .int .i64 x3, .bool true], by simp [results, Try.results98, go_sem], ⟨A3, c3, ?_, by rw [← HRR.out, R1.out]; exact ho4, (bl_call hb3 B2.out).trans (belowK_b (w := W0) (by omega) _ D _ _ hD hK' rfl rfl)⟩⟩
        rw [← HRR.out, R1.out, endL_len]
end Go.Proofs.Ytafddofajfcffaa
