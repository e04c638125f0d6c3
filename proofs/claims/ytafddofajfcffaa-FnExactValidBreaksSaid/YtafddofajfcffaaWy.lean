/- The search for the least way: a way is offered. -/
import Derived.Test.YtafddofajfcffaaFrame
import Derived.Test.YtafddofajfcffaaGp
import Derived.Test.YtafddofajfcffaaStepR
import Derived.Deep.CutRange
import Derived.RangeFuncWrites
import Derived.Deep.LoopGhost
namespace Go.Proofs.Ytafddofajfcffaa
open Go.ChangeShapes Go.WideShapes Go.ChangeAt Go.RowKit
set_option linter.unusedVariables false
set_option maxRecDepth 4000

/-- What a way that is offered does to the ways with the same end. -/
def offT (cnt : Bool) (x : Wy) : List Wy → List Wy
  | [] => [x]
  | y :: ys => if cnt = true ∧ y.p ≠ x.p then y :: offT cnt x ys else if x.c < y.c then x :: ys else y :: ys
/-- The first k ways have other numbers of pieces. -/
def Skp (cnt : Bool) (x : Wy) (l : List Wy) (k : Nat) : Prop := ∀ j, j < k → cnt = true ∧ (tg l j).p ≠ x.p
theorem tg_consW {y : Wy} {l : List Wy} (j : Nat) : tg (y :: l) (j + 1) = tg l j := rfl
theorem offT_skip {cnt : Bool} {x : Wy} : ∀ {l : List Wy} {k : Nat}, k ≤ l.length → Skp cnt x l k → offT cnt x l = l.take k ++ offT cnt x (l.drop k)
  | l, 0, _, _ => by simp
  | [], k + 1, h, _ => by simp at h
  | y :: l, k + 1, h, hs => by
    have h0 := hs 0 (by omega)
    have ih := offT_skip (cnt := cnt) (x := x) (l := l) (k := k) (by simpa using h) (fun j hj => hs (j + 1) (by omega))
    have h0' : cnt = true ∧ y.p ≠ x.p := h0
    simp only [offT]
    rw [if_pos h0', ih]
    rfl
theorem drop_tgW {l : List Wy} {k : Nat} (h : k < l.length) : l.drop k = tg l k :: l.drop (k + 1) := by
  rw [tg_lt h]; exact List.drop_eq_getElem_cons h
theorem offT_set {cnt : Bool} {x : Wy} {l : List Wy} {k : Nat} (hk : k < l.length) (hs : Skp cnt x l k) (hn : ¬ (cnt = true ∧ (tg l k).p ≠ x.p)) (hc : x.c < (tg l k).c) : offT cnt x l = l.set k x := by
  rw [offT_skip (Nat.le_of_lt hk) hs, drop_tgW hk]
  simp only [offT]
  rw [if_neg hn, if_pos hc, List.set_eq_take_append_cons_drop, if_pos hk]
theorem offT_stay {cnt : Bool} {x : Wy} {l : List Wy} {k : Nat} (hk : k < l.length) (hs : Skp cnt x l k) (hn : ¬ (cnt = true ∧ (tg l k).p ≠ x.p)) (hc : (tg l k).c ≤ x.c) : offT cnt x l = l := by
  rw [offT_skip (Nat.le_of_lt hk) hs, drop_tgW hk]
  simp only [offT]
  rw [if_neg hn, if_neg (by omega), ← drop_tgW hk, List.take_append_drop]
theorem offT_end {cnt : Bool} {x : Wy} {l : List Wy} (hs : Skp cnt x l l.length) : offT cnt x l = l ++ [x] := by
  rw [offT_skip (Nat.le_refl _) hs, List.take_length, List.drop_length]
  rfl
theorem offT_len {cnt : Bool} {x : Wy} : ∀ {l : List Wy}, l.length ≤ (offT cnt x l).length ∧ (offT cnt x l).length ≤ l.length + 1
  | [] => by simp [offT]
  | y :: l => by
    have := offT_len (cnt := cnt) (x := x) (l := l)
    simp only [offT]
    split
    · simp; omega
    · split <;> simp
/-- The search at block S: its ways, the first active one, whether they are counted. -/
structure WSt (u : World) (B S : Nat) (ws : List Wy) (act : Nat) (cnt : Bool) : Prop where
  hB : B ≤ S
  hS : S < u.heap.size
  c1 : u.cell? ⟨S, 1, none⟩ = some (.int .i64 act)
  f1 : u.frozen? ⟨S, 1, none⟩ = false
  c2 : u.cell? ⟨S, 2, none⟩ = some (.bool cnt)
  f0 : u.frozen? ⟨S, 0, none⟩ = false
  own : ∃ g c, u.cell? ⟨S, 0, none⟩ = some (.slice (some ⟨g, 0, none⟩) ws.length c) ∧ g ≠ S ∧ TO u 152 B (some ⟨g, 0, none⟩) c ws
section
variable {u u' : World} {B S act n : Nat} {ws : List Wy} {cnt : Bool}
theorem WSt.below (h : WSt u B S ws act cnt) (hb : Below n u u') (hn : u.heap.size ≤ n) : WSt u' B S ws act cnt := by
  have hb := hb.mono hn
  obtain ⟨g, c, h1, h2, h3⟩ := h.own
  exact ⟨h.hB, Nat.lt_of_lt_of_le h.hS hb.size, keep_cell hb h.c1, (hb.frozen (p := ⟨S, 1, none⟩) h.hS).trans h.f1, keep_cell hb h.c2, (hb.frozen (p := ⟨S, 0, none⟩) h.hS).trans h.f0, g, c, keep_cell hb h1, h2, h3.below hb⟩
theorem WSt.drewN (h : WSt u B S ws act cnt) (k : Nat) : WSt (u.drewN k) B S ws act cnt := h.below (bl_drewN (bl_refl u) k) (Nat.le_refl _)
theorem WSt.drew (h : WSt u B S ws act cnt) : WSt u.drew B S ws act cnt := h.below (bl_drew (bl_refl u)) (Nat.le_refl _)
theorem WSt.alloc (h : WSt u B S ws act cnt) (o : Obj) : WSt (u.alloc o) B S ws act cnt := h.below (bl_alloc (bl_refl u) o) (Nat.le_refl _)
end
theorem on_setW (v : World) (S : Nat) (x : Value) : v.grownBy (v.setCell ⟨S, 0, none⟩ x) (some S) :=
  on_set' (World.grownBy.refl v (some S)) (.inl rfl) x
theorem WSt.put {u : World} {B S act n c g i : Nat} {ws : List Wy} {cnt : Bool} (h : WSt u B S ws act cnt) (hc : u.cell? ⟨S, 0, none⟩ = some (.slice (some ⟨g, 0, none⟩) n c)) (hi : i < ws.length) (x : Wy) :
    WSt ((((u.setCell ⟨g, i * 4, none⟩ (.int .i64 x.a)).setCell ⟨g, i * 4 + 1, none⟩ (.int .i64 x.p)).setCell ⟨g, i * 4 + 2, none⟩ (.int .i64 x.c)).setCell ⟨g, i * 4 + 3, none⟩ (.int .i64 x.b)) B S (ws.set i x) act cnt ∧
    Below B u ((((u.setCell ⟨g, i * 4, none⟩ (.int .i64 x.a)).setCell ⟨g, i * 4 + 1, none⟩ (.int .i64 x.p)).setCell ⟨g, i * 4 + 2, none⟩ (.int .i64 x.c)).setCell ⟨g, i * 4 + 3, none⟩ (.int .i64 x.b)) := by
  obtain ⟨g', c', h1, h2, h3⟩ := h.own
  rw [hc] at h1
  injection h1 with h1
  injection h1 with h1 h4 h5
  injection h1 with h1
  injection h1 with h1
  subst h1
  subst h5
  subst h4
  obtain ⟨g', e, hBg, _⟩ := h3.form (by omega)
  cases e
  have hne : ∀ (o1 o2 : Nat), (⟨g, o1, none⟩ : Addr) ≠ ⟨S, o2, none⟩ := fun o1 o2 e => by cases e; exact h2 rfl
  refine ⟨⟨h.hB, by simpa [World.setCell] using h.hS, ?_, ?_, ?_, ?_, g, c, ?_, h2, ?_⟩, ?_⟩
  · exact keep_set (keep_set (keep_set (keep_set h.c1 (hne _ _).symm _) (hne _ _).symm _) (hne _ _).symm _) (hne _ _).symm _
  · simp only [World.frozen?_setCell]; exact h.f1
  · exact keep_set (keep_set (keep_set (keep_set h.c2 (hne _ _).symm _) (hne _ _).symm _) (hne _ _).symm _) (hne _ _).symm _
  · simp only [World.frozen?_setCell]; exact h.f0
  · rw [List.length_set]
    exact keep_set (keep_set (keep_set (keep_set hc (hne _ _).symm _) (hne _ _).symm _) (hne _ _).symm _) (hne _ _).symm _
  · exact h3.put4 x hi
  · exact ((((Below.refl _ _).setCell (p := ⟨g, i * 4, none⟩) hBg _).setCell (p := ⟨g, i * 4 + 1, none⟩) hBg _).setCell (p := ⟨g, i * 4 + 2, none⟩) hBg _).setCell (p := ⟨g, i * 4 + 3, none⟩) hBg _
/-- A slice of ways that has grown, stored into the search. -/
theorem WSt.app {u v : World} {B S act c g c' g' : Nat} {ws : List Wy} {cnt : Bool} {o : Obj} {x : Wy} {n : Nat} (h : WSt u B S ws act cnt) (hc : u.cell? ⟨S, 0, none⟩ = some (.slice (some ⟨g, 0, none⟩) n c))
    (ho : TO v 152 B (some ⟨g', 0, none⟩) c' (ws ++ [x])) (hb : Below B (u.alloc o) v) (hg : (u.alloc o).grownBy v (Value.slice (some ⟨g, 0, none⟩) n c).ownBlock) (hat : (Value.slice (some ⟨g, 0, none⟩) n c).ownBlock = some g' ∨ g' = (u.alloc o).heap.size) :
    WSt (v.setCell ⟨S, 0, none⟩ (.slice (some ⟨g', 0, none⟩) (n + 1) c')) B S (ws ++ [x]) act cnt ∧ Below B (u.alloc o) (v.setCell ⟨S, 0, none⟩ (.slice (some ⟨g', 0, none⟩) (n + 1) c')) := by
  obtain ⟨g0, c0, h1, h2, h3⟩ := h.own
  rw [hc] at h1
  injection h1 with h1
  injection h1 with h1 h4 h5
  injection h1 with h1
  injection h1 with h1
  subst h1
  subst h5
  subst h4
  have hS := h.hS
  have hz := hg.size
  simp at hz
  have hgS : g' ≠ S := by
    rcases hat with e | e
    · have : (Value.slice (some ⟨g, 0, none⟩) ws.length c).ownBlock = some g := rfl
      rw [this] at e
      cases e
      exact h2
    · simp at e; omega
  have hA := h.alloc o
  have hne : some S ≠ (Value.slice (some ⟨g, 0, none⟩) ws.length c).ownBlock := by
    have : (Value.slice (some ⟨g, 0, none⟩) ws.length c).ownBlock = some g := rfl
    rw [this]
    intro e
    cases e
    exact h2 rfl
  have hk : ∀ j, v.cell? ⟨S, j, none⟩ = (u.alloc o).cell? ⟨S, j, none⟩ := fun j => hg.cell_far ⟨S, j, none⟩ (by show S < _; simp; omega) hne
  have hf : ∀ j, v.frozen? ⟨S, j, none⟩ = (u.alloc o).frozen? ⟨S, j, none⟩ := fun j => hg.frozen_far ⟨S, j, none⟩ (by show S < _; simp; omega) hne
  have hlen : (ws ++ [x]).length = ws.length + 1 := by simp
  refine ⟨⟨h.hB, by simp; omega, ?_, ?_, ?_, ?_, g', c', ?_, hgS, ?_⟩, hb.setCell h.hB _⟩
  · exact keep_set ((hk 1).trans hA.c1) (by intro e; cases e) _
  · rw [World.frozen?_setCell, hf]; exact hA.f1
  · exact keep_set ((hk 2).trans hA.c2) (by intro e; cases e) _
  · rw [World.frozen?_setCell, hf]; exact hA.f0
  · rw [hlen]
    exact World.cell?_setCell_same' _ _ _ (by rw [hk 0, keep_alloc hc o]; rfl)
  · have hbs : Below B v (v.setCell ⟨S, 0, none⟩ (.slice (some ⟨g', 0, none⟩) (ws.length + 1) c')) := (Below.refl _ _).setCell h.hB _
    exact ho.kept (on_setW v S _) (fun k hk e => by
      have : (Value.slice (some ⟨g', 0, none⟩) (ws ++ [x]).length c').ownBlock = some g' := rfl
      rw [this] at hk
      cases hk
      cases e
      exact hgS rfl)
theorem tg_appW {hd tl : List Wy} {k : Nat} : tg (hd ++ tl) (hd.length + k) = tg tl k := by
  have h : ¬ hd.length + k < hd.length := by omega
  simp [tg, List.getD, List.getElem?_append, h]
theorem set_appW {hd tl : List Wy} {k : Nat} {x : Wy} : (hd ++ tl).set (hd.length + k) x = hd ++ tl.set k x := by simp
theorem ko_below {W W' : World} (h : Below W.heap.size W W') : KeepsOthers W W' := ⟨h.size, fun k o hk _ => (h.block k (Array.getElem?_eq_some_iff.1 hk).1).trans hk⟩
section
variable {w W W' : World}
theorem ko_refl (w : World) : KeepsOthers w w := KeepsOthers.refl w
theorem ko_alloc (h : KeepsOthers w W) (o : Obj) : KeepsOthers w (W.alloc o) := h.trans (ko_below (bl_alloc (bl_refl W) o))
theorem ko_drewN (h : KeepsOthers w W) (n : Nat) : KeepsOthers w (W.drewN n) := h.trans (ko_below (bl_drewN (bl_refl W) n))
theorem ko_drew (h : KeepsOthers w W) : KeepsOthers w W.drew := h.trans (ko_below (bl_drew (bl_refl W)))
theorem ko_set (h : KeepsOthers w W) (p : Addr) (v : Value) : KeepsOthers w (W.setCell p v) := h.trans (KeepsOthers.setCell _ _ _)
theorem ko_grown {α : Type} [Rec α] {e : TypeId} {B c : Nat} {A : Option Addr} {L : List α} (ho : TO w e B A c L) (hg : w.grownBy W (Value.slice A L.length c).ownBlock) : KeepsOthers w W :=
  ⟨hg.size, fun k o hk hc => by
    refine (hg.block k (Array.getElem?_eq_some_iff.1 hk).1 (fun e => ?_)).trans hk
    rcases ho.2 with ⟨h0, _⟩ | ⟨g, cap, cur, h1, h2, h3, _⟩
    · rw [h0] at e; cases e
    · rw [h1] at e
      cases e
      rw [h3] at hk
      cases hk
      cases hc⟩
end
theorem way_info : (Try.prog.info? 152).map (fun i => (i.zero, i.size, i.bytes)) = some (some (.agg #[.int .i64 0, .int .i64 0, .int .i64 0, .int .i64 0]), 4, 32) := by kernel_rfl
set_option maxHeartbeats 4000000 in
theorem offer_i (w : World) (B S : Nat) (hd tl : List Wy) (act : Nat) (cnt : Bool) (x : Wy) (hs : WSt w B S (hd ++ tl) act cnt) (h0 : 0 < hd.length) (hl : (hd ++ tl).length ≤ 1000000) :
    Calls Try.prog 160 #[.pointer (some ⟨S, 0, none⟩), wyv x, .int .i64 hd.length] w fun e w' => (∃ v, e = .returned v) ∧ WSt w' B S (hd ++ offT cnt x tl) act cnt ∧ Below B w w' ∧ KeepsOthers w w' := by
  obtain ⟨i0, hi0, jz0, jz1, jz2⟩ := info_parts way_info
  obtain ⟨xa, xp, xc, xb⟩ := x
  have hS := hs.hS
  have hB := hs.hB
  have c1 := keep_alloc hs.c1 (.cells #[.int .i64 xa, .int .i64 xp, .int .i64 xc, .int .i64 xb] 152)
  have c2 := keep_alloc hs.c2 (.cells #[.int .i64 xa, .int .i64 xp, .int .i64 xc, .int .i64 xb] 152)
  have f0 : (w.alloc (.cells #[.int .i64 xa, .int .i64 xp, .int .i64 xc, .int .i64 xb] 152)).frozen? ⟨S, 0, none⟩ = false := ((bcell (bl_alloc (bl_refl w) (.cells #[.int .i64 xa, .int .i64 xp, .int .i64 xc, .int .i64 xb] 152))).2 S 0 hS).trans hs.f0
  obtain ⟨g, c, c0', hgS, hto'⟩ := hs.own
  have c0 := keep_alloc c0' (.cells #[.int .i64 xa, .int .i64 xp, .int .i64 xc, .int .i64 xb] 152)
  have hto := hide (hto'.alloc (.cells #[.int .i64 xa, .int .i64 xp, .int .i64 xc, .int .i64 xb] 152))
  have hgw : g < w.heap.size := by
    obtain ⟨g', e, _, h2, _⟩ := hto'.form (by simp; omega)
    cases e
    exact h2
  have hgB : B ≤ g := by
    obtain ⟨g', e, h2, _⟩ := hto'.form (by simp; omega)
    cases e
    exact h2
  have HS := hide (hs.alloc (.cells #[.int .i64 xa, .int .i64 xp, .int .i64 xc, .int .i64 xb] 152))
  clear c0' hto' hs
  obtain ⟨N, hN⟩ : ∃ N, N = (hd ++ tl).length := ⟨_, rfl⟩
  have hNl : N = hd.length + tl.length := by rw [hN]; simp
  rw [← hN] at hl c0
  have HN := hide hNl
  clear hN hNl
  have E0 : (w.alloc (.cells #[.int .i64 xa, .int .i64 xp, .int .i64 xc, .int .i64 xb] 152)).cell? ⟨w.heap.size, 0, none⟩ = some (.int .i64 xa) := by simp [go_sem]
  have E1 : (w.alloc (.cells #[.int .i64 xa, .int .i64 xp, .int .i64 xc, .int .i64 xb] 152)).cell? ⟨w.heap.size, 1, none⟩ = some (.int .i64 xp) := by simp [go_sem]
  have E2 : (w.alloc (.cells #[.int .i64 xa, .int .i64 xp, .int .i64 xc, .int .i64 xb] 152)).cell? ⟨w.heap.size, 2, none⟩ = some (.int .i64 xc) := by simp [go_sem]
  have E3 : (w.alloc (.cells #[.int .i64 xa, .int .i64 xp, .int .i64 xc, .int .i64 xb] 152)).cell? ⟨w.heap.size, 3, none⟩ = some (.int .i64 xb) := by simp [go_sem]
  go_enter Try.func160, Try.ntmps160
  go_wp2
  go_loopw [6] (fun i u => ∃ (k n : Nat), k ≤ tl.length ∧ i = .int .i64 ((hd.length + k : Nat) : Int) ∧ Skp cnt ⟨xa, xp, xc, xb⟩ tl k ∧ (w.alloc (.cells #[.int .i64 xa, .int .i64 xp, .int .i64 xc, .int .i64 xb] 152)).drewN n = u) (fun i _ => N - (intOf i).toNat)
  case atStart => exact ⟨0, 0, by omega, by simp, fun j hj => by omega, rfl⟩
  case round =>
    obtain ⟨k, n, hk, rfl, hsk, rfl⟩ := hrel
    have SK := hide hsk
    clear hsk
    by_cases hlt : k < tl.length
    · obtain ⟨b, o, he, hbl, d0, d1, d2, d3⟩ := hto.out.reads.at4 (i := hd.length + k) (by simp; omega)
      injection he with he
      cases he
      rw [tg_appW] at d0 d1 d2 d3
      have ST := hide (fun h => offT_set (cnt := cnt) (x := ⟨xa, xp, xc, xb⟩) hlt SK.out h)
      have SY := hide (fun h => offT_stay (cnt := cnt) (x := ⟨xa, xp, xc, xb⟩) hlt SK.out h)
      have SN := hide (fun (h : cnt = true ∧ (tg tl k).p ≠ xp) => show Skp cnt ⟨xa, xp, xc, xb⟩ tl (k + 1) from fun j hj => by
        rcases (by omega : j < k ∨ j = k) with e | e
        · exact SK.out j e
        · rw [e]; exact h)
      obtain ⟨y, hy⟩ : ∃ y, y = tg tl k := ⟨_, rfl⟩
      rw [← hy] at d0 d1 d2 d3 ST SY SN
      clear hy
      obtain ⟨ya, yp, yc, yb⟩ := y
      rw [Nat.zero_add] at d0 d1 d2 d3
      obtain ⟨m, hm⟩ : ∃ m, m = hd.length + k := ⟨_, rfl⟩
      rw [← hm] at d0 d1 d2 d3 ⊢
      have hfz : ∀ i, (w.alloc (.cells #[.int .i64 xa, .int .i64 xp, .int .i64 xc, .int .i64 xb] 152)).frozen? ⟨g, i, none⟩ = false := by
        obtain ⟨g', e, _, _, hfz⟩ := hto.out.frozen (by simp; omega)
        cases e
        exact hfz
      have hmN : m < N := by have := HN.out; omega
      have HM := hide hm
      clear hm
      by_cases hskip : cnt = true ∧ yp ≠ xp
      · obtain ⟨rfl, hne⟩ := hskip
        have M := hide (SN.out ⟨rfl, hne⟩)
        have q0 : (yp != xp) = true := by simp [hne]
        clear ST SY SN hne
        go_wp2
        go_quiet (fail)
        go_wp2
        go_roundw
        case rel => exact ⟨k + 1, _, by omega, by rw [HM.out]; go_num, M.out, rfl⟩
        case measure => simp [intOf]; omega
      rcases (by cases cnt
                 · exact .inl rfl
                 · right; refine ⟨rfl, ?_⟩; false_or_by_contra; rename_i h; exact hskip ⟨rfl, h⟩ : cnt = false ∨ cnt = true ∧ yp = xp) with rfl | ⟨rfl, hyp⟩
      · have NS := hide hskip
        clear hskip
        rcases (by omega : xc < yc ∨ yc ≤ xc) with q | q
        · have d0 : decide (xc < yc) = true := decide_eq_true q
          go_wp2
          go_quiet (fail)
          go_wp2
          go_quiet (fail)
          go_wp2
          go_region_with (fail)
          all_goals
            go_wp2
            refine bodyPost_ret (results_none rfl _ _ _) rfl ?_
            refine ⟨⟨_, rfl⟩, ?_, ?_, by repeat (first | with_reducible exact ko_refl _ | with_reducible refine ko_set ?_ _ _ | with_reducible refine ko_alloc ?_ _ | with_reducible refine ko_drewN ?_ _ | with_reducible refine ko_drew ?_)⟩
            · rw [ST.out NS.out q, ← set_appW, ← HM.out]
              refine (WSt.put ?_ (by simpa [go_sem] using c0) (by simp; have := HN.out; omega) ⟨xa, xp, xc, xb⟩).1
              repeat (first | exact HS.out | with_reducible refine WSt.drewN ?_ _ | with_reducible refine WSt.drew ?_)
            · refine Below.trans ?_ (WSt.put (act := act) (cnt := false) (ws := hd ++ tl) ?_ (by simpa [go_sem] using c0) (by simp; have := HN.out; omega) ⟨xa, xp, xc, xb⟩).2
              · refine Below.mono (B := w.heap.size) ?_ (by omega); (repeat' (first | with_reducible exact bl_refl _ | with_reducible assumption | with_reducible refine bl_alloc ?_ _ | with_reducible refine bl_set ?_ ?_ _ | with_reducible refine bl_drewN ?_ _ | with_reducible refine bl_drew ?_ | with_reducible refine bl_call (by assumption) ?_))
              · repeat (first | exact HS.out | with_reducible refine WSt.drewN ?_ _ | with_reducible refine WSt.drew ?_)
        · have d0 : decide (xc < yc) = false := decide_eq_false (by omega)
          have E := hide (SY.out NS.out q)
          go_wp2
          go_quiet (fail)
          go_wp2
          go_quiet (fail)
          go_wp2
          refine bodyPost_ret (results_none rfl _ _ _) rfl ?_
          rw [E.out]
          refine ⟨⟨_, rfl⟩, ?_, ?_, by repeat (first | with_reducible exact ko_refl _ | with_reducible refine ko_set ?_ _ _ | with_reducible refine ko_alloc ?_ _ | with_reducible refine ko_drewN ?_ _ | with_reducible refine ko_drew ?_)⟩
          · repeat (first | exact HS.out | with_reducible refine WSt.drewN ?_ _ | with_reducible refine WSt.drew ?_)
          · refine Below.mono (B := w.heap.size) ?_ (by omega); (repeat' (first | with_reducible exact bl_refl _ | with_reducible assumption | with_reducible refine bl_alloc ?_ _ | with_reducible refine bl_set ?_ ?_ _ | with_reducible refine bl_drewN ?_ _ | with_reducible refine bl_drew ?_ | with_reducible refine bl_call (by assumption) ?_))
      · subst hyp
        have NS := hide hskip
        have q0 : (yp != yp) = false := by simp
        clear hskip
        rcases (by omega : xc < yc ∨ yc ≤ xc) with q | q
        · have d0 : decide (xc < yc) = true := decide_eq_true q
          go_wp2
          go_quiet (fail)
          go_wp2
          go_quiet (fail)
          go_wp2
          go_region_with (fail)
          all_goals
            go_wp2
            refine bodyPost_ret (results_none rfl _ _ _) rfl ?_
            refine ⟨⟨_, rfl⟩, ?_, ?_, by repeat (first | with_reducible exact ko_refl _ | with_reducible refine ko_set ?_ _ _ | with_reducible refine ko_alloc ?_ _ | with_reducible refine ko_drewN ?_ _ | with_reducible refine ko_drew ?_)⟩
            · rw [ST.out NS.out q, ← set_appW, ← HM.out]
              refine (WSt.put ?_ (by simpa [go_sem] using c0) (by simp; have := HN.out; omega) ⟨xa, yp, xc, xb⟩).1
              repeat (first | exact HS.out | with_reducible refine WSt.drewN ?_ _ | with_reducible refine WSt.drew ?_)
            · refine Below.trans ?_ (WSt.put (act := act) (cnt := true) (ws := hd ++ tl) ?_ (by simpa [go_sem] using c0) (by simp; have := HN.out; omega) ⟨xa, yp, xc, xb⟩).2
              · refine Below.mono (B := w.heap.size) ?_ (by omega); (repeat' (first | with_reducible exact bl_refl _ | with_reducible assumption | with_reducible refine bl_alloc ?_ _ | with_reducible refine bl_set ?_ ?_ _ | with_reducible refine bl_drewN ?_ _ | with_reducible refine bl_drew ?_ | with_reducible refine bl_call (by assumption) ?_))
              · repeat (first | exact HS.out | with_reducible refine WSt.drewN ?_ _ | with_reducible refine WSt.drew ?_)
        · have d0 : decide (xc < yc) = false := decide_eq_false (by omega)
          have E := hide (SY.out NS.out q)
          go_wp2
          go_quiet (fail)
          go_wp2
          go_quiet (fail)
          go_wp2
          refine bodyPost_ret (results_none rfl _ _ _) rfl ?_
          rw [E.out]
          refine ⟨⟨_, rfl⟩, ?_, ?_, by repeat (first | with_reducible exact ko_refl _ | with_reducible refine ko_set ?_ _ _ | with_reducible refine ko_alloc ?_ _ | with_reducible refine ko_drewN ?_ _ | with_reducible refine ko_drew ?_)⟩
          · repeat (first | exact HS.out | with_reducible refine WSt.drewN ?_ _ | with_reducible refine WSt.drew ?_)
          · refine Below.mono (B := w.heap.size) ?_ (by omega); (repeat' (first | with_reducible exact bl_refl _ | with_reducible assumption | with_reducible refine bl_alloc ?_ _ | with_reducible refine bl_set ?_ ?_ _ | with_reducible refine bl_drewN ?_ _ | with_reducible refine bl_drew ?_ | with_reducible refine bl_call (by assumption) ?_))
    · have hkl : k = tl.length := by omega
      have OE := hide (offT_end (cnt := cnt) (x := ⟨xa, xp, xc, xb⟩) (l := tl) (by rw [← hkl]; exact SK.out))
      have hmn : hd.length + k = N := by have := HN.out; omega
      have HL := hide (show N = (hd ++ tl).length by rw [List.length_append]; exact HN.out)
      rw [hmn]
      clear hkl hmn hk hlt SK
      have W0 := hide (show WSt ((w.alloc (.cells #[.int .i64 xa, .int .i64 xp, .int .i64 xc, .int .i64 xb] 152)).drewN n) B S (hd ++ tl) act cnt from HS.out.drewN n)
      have B0 := hide (show Below w.heap.size w ((w.alloc (.cells #[.int .i64 xa, .int .i64 xp, .int .i64 xc, .int .i64 xb] 152)).drewN n) from (by (repeat' (first | with_reducible exact bl_refl _ | with_reducible assumption | with_reducible refine bl_alloc ?_ _ | with_reducible refine bl_set ?_ ?_ _ | with_reducible refine bl_drewN ?_ _ | with_reducible refine bl_drew ?_ | with_reducible refine bl_call (by assumption) ?_)); (all_goals (first | omega | (simp; done) | (simp; omega)))))
      have K0 := hide (show KeepsOthers w ((w.alloc (.cells #[.int .i64 xa, .int .i64 xp, .int .i64 xc, .int .i64 xb] 152)).drewN n) from ko_drewN (ko_alloc (ko_refl w) _) n)
      have T0 := hide (show TO ((w.alloc (.cells #[.int .i64 xa, .int .i64 xp, .int .i64 xc, .int .i64 xb] 152)).drewN n) 152 B (some ⟨g, 0, none⟩) c (hd ++ tl) from hto.out)
      have hz : ((w.alloc (.cells #[.int .i64 xa, .int .i64 xp, .int .i64 xc, .int .i64 xb] 152)).drewN n).heap.size = w.heap.size + 1 := by simp
      obtain ⟨V, hV⟩ : ∃ V, V = (w.alloc (.cells #[.int .i64 xa, .int .i64 xp, .int .i64 xc, .int .i64 xb] 152)).drewN n := ⟨_, rfl⟩
      replace c0 : V.cell? ⟨S, 0, none⟩ = some (.slice (some ⟨g, 0, none⟩) N c) := by rw [hV]; exact c0
      replace f0 : V.frozen? ⟨S, 0, none⟩ = false := by rw [hV]; exact f0
      replace E0 : V.cell? ⟨w.heap.size, 0, none⟩ = some (.int .i64 xa) := by rw [hV]; exact E0
      replace E1 : V.cell? ⟨w.heap.size, 1, none⟩ = some (.int .i64 xp) := by rw [hV]; exact E1
      replace E2 : V.cell? ⟨w.heap.size, 2, none⟩ = some (.int .i64 xc) := by rw [hV]; exact E2
      replace E3 : V.cell? ⟨w.heap.size, 3, none⟩ = some (.int .i64 xb) := by rw [hV]; exact E3
      rw [← hV] at W0 B0 T0 K0 hz ⊢
      have hSV : S < V.heap.size := by omega
      have hgV : g < V.heap.size := by omega
      have hne : some S ≠ (Value.slice (some ⟨g, 0, none⟩) N c).ownBlock := by
        have : (Value.slice (some ⟨g, 0, none⟩) N c).ownBlock = some g := rfl
        rw [this]
        intro e
        cases e
        exact hgS rfl
      clear hV c1 c2 HS hto hz
      go_wp2
      go_region_law (refine step_append_rec (r := ⟨xa, xp, xc, xb⟩) rfl (.tmp 56) (.tmp 58) _ rfl 152 i0 _ 32 Try.underlying153 hi0 jz0 jz1 jz2 rfl (by decide) B (some ⟨g, 0, none⟩) c N (hd ++ tl) rfl HL.out (T0.out.drew.alloc _) V.heap.size rfl (ones4 _) (by intro j hj; have hj' : j < 4 := hj; rcases (by omega : j = 0 ∨ j = 1 ∨ j = 2 ∨ j = 3) with rfl | rfl | rfl | rfl <;> simp [go_sem, Rec.cells]) (by omega) (by simp; omega) _ rfl ?_; intro g' c' w1 hol' hb' hg' hat' hlt'; have k0 := (hg'.cell_far ⟨S, 0, none⟩ (by show S < _; simp; omega) hne).trans (keep_alloc (W := V.drew) c0 _); have kf := (hg'.frozen_far ⟨S, 0, none⟩ (by show S < _; simp; omega) hne).trans (((bcell (bl_alloc (bl_refl V.drew) (.cells #[.int .i64 xa, .int .i64 xp, .int .i64 xc, .int .i64 xb] 152))).2 S 0 hSV).trans f0))
      all_goals
        go_wp2
        go_end0
        have P := WSt.app (W0.out.drew) c0 hol' hb' hg' hat'
        rw [OE.out, ← List.append_assoc]
        exact ⟨⟨_, rfl⟩, P.1, ((Below.mono (bl_alloc (bl_drew B0.out) _) (by omega)).trans P.2), ko_set (KeepsOthers.trans (ko_alloc (ko_drew K0.out) _) (ko_grown (T0.out.drew.alloc _) (by rw [← HL.out]; exact hg'))) _ _⟩
end Go.Proofs.Ytafddofajfcffaa
