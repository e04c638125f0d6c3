/- Drawn fonts. -/
import Derived.Test.YtlfhfbeacleggabFont
import Derived.Test.YtlfhfbeacleggabRead
import Derived.Test.YtlfhfbeacleggabDrawI
import Derived.Test.YtlfhfbeacleggabRecD
import Derived.Test.YtlfhfbeacleggabStepA
import Derived.Test.YtlfhfbeacleggabStepR
import Derived.Deep.RegionLaw
import Derived.Deep.CutRange
import Derived.Lib.BufferOwn
namespace Go.Proofs.Ytlfhfbeacleggab
open Go.ChangeShapes Go.WideShapes Go.ChangeAt Go.RowKit
set_option linter.unusedVariables false
set_option linter.unusedSimpArgs false
set_option maxRecDepth 4000

theorem gp_infoF : (Try.prog.info? 35).map (fun i => (i.zero, i.size, i.bytes)) = some (some (.agg #[.int .i64 0, .int .i64 0, .int .i64 0]), 3, 24) := by kernel_rfl
/-- The block of a slice's memory. -/
def obk (A : Option Addr) : Option Nat := (Value.slice A 0 0).ownBlock
theorem obk_eq (A : Option Addr) (n c : Nat) : (Value.slice A n c).ownBlock = obk A := by cases A <;> rfl
theorem cellF_new {W : World} {n : Nat} {v : Value} {t : TypeId} (h : W.heap.size = n) : (W.alloc (.cells #[v] t)).cell? ⟨n, 0, none⟩ = some v := by
  subst h; simp [go_sem]
structure FB (u : World) (b : Nat) (v0 v1 v2 v3 v4 v5 v6 : Value) : Prop where
  c0 : u.cell? ⟨b, 0, none⟩ = some v0
  c1 : u.cell? ⟨b, 1, none⟩ = some v1
  c2 : u.cell? ⟨b, 2, none⟩ = some v2
  c3 : u.cell? ⟨b, 3, none⟩ = some v3
  c4 : u.cell? ⟨b, 4, none⟩ = some v4
  c5 : u.cell? ⟨b, 5, none⟩ = some v5
  c6 : u.cell? ⟨b, 6, none⟩ = some v6
  fz : ∀ j, u.frozen? ⟨b, j, none⟩ = false
section
variable {u u' : World} {b : Nat} {v0 v1 v2 v3 v4 v5 v6 x : Value}
theorem FB.of_block (h : FB u b v0 v1 v2 v3 v4 v5 v6) (e : u'.heap[b]? = u.heap[b]?) : FB u' b v0 v1 v2 v3 v4 v5 v6 :=
  ⟨(World.cell?_of_block (a := ⟨b, 0, none⟩) e).trans h.c0, (World.cell?_of_block (a := ⟨b, 1, none⟩) e).trans h.c1, (World.cell?_of_block (a := ⟨b, 2, none⟩) e).trans h.c2, (World.cell?_of_block (a := ⟨b, 3, none⟩) e).trans h.c3, (World.cell?_of_block (a := ⟨b, 4, none⟩) e).trans h.c4, (World.cell?_of_block (a := ⟨b, 5, none⟩) e).trans h.c5, (World.cell?_of_block (a := ⟨b, 6, none⟩) e).trans h.c6, fun j => (World.frozen?_of_block (a := ⟨b, j, none⟩) e).trans (h.fz j)⟩
theorem FB.lt (h : FB u b v0 v1 v2 v3 v4 v5 v6) : b < u.heap.size := World.block_lt_of_cell? u _ h.c0
theorem FB.set0 (h : FB u b v0 v1 v2 v3 v4 v5 v6) : FB (u.setCell ⟨b, 0, none⟩ x) b x v1 v2 v3 v4 v5 v6 :=
  ⟨by simp [go_sem, h.c0], by simp [go_sem, h.c1], by simp [go_sem, h.c2], by simp [go_sem, h.c3], by simp [go_sem, h.c4], by simp [go_sem, h.c5], by simp [go_sem, h.c6], fun j => by simp [go_sem, h.fz]⟩
theorem FB.set5 (h : FB u b v0 v1 v2 v3 v4 v5 v6) : FB (u.setCell ⟨b, 5, none⟩ x) b v0 v1 v2 v3 v4 x v6 :=
  ⟨by simp [go_sem, h.c0], by simp [go_sem, h.c1], by simp [go_sem, h.c2], by simp [go_sem, h.c3], by simp [go_sem, h.c4], by simp [go_sem, h.c5], by simp [go_sem, h.c6], fun j => by simp [go_sem, h.fz]⟩
theorem FB.set6 (h : FB u b v0 v1 v2 v3 v4 v5 v6) : FB (u.setCell ⟨b, 6, none⟩ x) b v0 v1 v2 v3 v4 v5 x :=
  ⟨by simp [go_sem, h.c0], by simp [go_sem, h.c1], by simp [go_sem, h.c2], by simp [go_sem, h.c3], by simp [go_sem, h.c4], by simp [go_sem, h.c5], by simp [go_sem, h.c6], fun j => by simp [go_sem, h.fz]⟩
theorem FB.set1 (h : FB u b v0 v1 v2 v3 v4 v5 v6) : FB (u.setCell ⟨b, 1, none⟩ x) b v0 x v2 v3 v4 v5 v6 :=
  ⟨by simp [go_sem, h.c0], by simp [go_sem, h.c1], by simp [go_sem, h.c2], by simp [go_sem, h.c3], by simp [go_sem, h.c4], by simp [go_sem, h.c5], by simp [go_sem, h.c6], fun j => by simp [go_sem, h.fz]⟩
end
/-- The cells of a result. -/
theorem ret_cell {w u : World} {g : Nat} {v0 v1 v2 v3 v4 v5 v6 : Value} {t : TypeId} (h : (w.alloc (.cells #[v0, v1, v2, v3, v4, v5, v6] t)).grownBy u (some g)) : ∃ w1, w1 = w.alloc (.cells #[v0, v1, v2, v3, v4, v5, v6] t) ∧ FB w1 w.heap.size v0 v1 v2 v3 v4 v5 v6 ∧ w1.heap.size = w.heap.size + 1 ∧ w.grownBy w1 (some g) :=
  ⟨_, rfl, ⟨by simp [go_sem], by simp [go_sem], by simp [go_sem], by simp [go_sem], by simp [go_sem], by simp [go_sem], by simp [go_sem], fun j => by simp [go_sem]⟩, by simp, on_alloc (on_refl w (some g)) _⟩
/-- A font in the making: its cells, its three rows, the reader. -/
structure FoS (w u : World) (B g b N : Nat) (AW : Option Addr) (cW : Nat) (W : List Int) (x y z h : Int) (AK : Option Addr) (cK : Nat) (K : List Gp) (AL : Option Addr) (cL : Nat) (L : List Gp) : Prop where
  fb : FB u b (.slice AW W.length cW) (.int .i64 x) (.int .i64 y) (.int .i64 z) (.int .i64 h) (.slice AK K.length cK) (.slice AL L.length cL)
  hW : OL u 3 (b + 1) AW cW W
  hK : TO u 35 (b + 1) AK cK K
  hL : TO u 35 (b + 1) AL cL L
  nWK : ∀ k, obk AW = some k → obk AK ≠ some k
  nWL : ∀ k, obk AW = some k → obk AL ≠ some k
  nKL : ∀ k, obk AK = some k → obk AL ≠ some k
  rd : RD u B g N
  gb : g < b
  bb : B ≤ b
  wb : w.heap.size ≤ b
  on : w.grownBy u (some g)
section
variable {w u u' : World} {B g b N : Nat} {AW : Option Addr} {cW : Nat} {W : List Int} {x y z h : Int} {AK : Option Addr} {cK : Nat} {K : List Gp} {AL : Option Addr} {cL : Nat} {L : List Gp}
theorem FoS.lt (s : FoS w u B g b N AW cW W x y z h AK cK K AL cL L) : b < u.heap.size := s.fb.lt
theorem FoS.more {M : Nat} (s : FoS w u B g b N AW cW W x y z h AK cK K AL cL L) (hm : N ≤ M) : FoS w u B g b M AW cW W x y z h AK cK K AL cL L :=
  { s with rd := s.rd.more hm (Nat.le_refl _) s.rd.2.1 }
theorem FoS.rest {M : Nat} (s : FoS w u B g b N AW cW W x y z h AK cK K AL cL L) {row : Option Nat} (hr : row = some g ∨ row = none) (hg : u.grownBy u' row) (hrd : RD u' B g M) : FoS w u' B g b M AW cW W x y z h AK cK K AL cL L := by
  have far : ∀ k, b ≤ k → k < u.heap.size → u'.heap[k]? = u.heap[k]? := fun k h1 h2 => hg.block k h2 (fun e => by
    have := s.gb
    rcases hr with rfl | rfl
    · injection e with e; omega
    · cases e)
  have hl := s.lt
  have hrow : ∀ k, b + 1 ≤ k → row ≠ some k := fun k h1 e => by
    have := s.gb
    rcases hr with rfl | rfl
    · injection e with e; omega
    · cases e
  exact { fb := s.fb.of_block (far b (Nat.le_refl _) hl), hW := s.hW.kept hg (fun k hk => hrow k (s.hW.own_lt k hk).1), hK := TO.kept s.hK hg (fun k hk => hrow k (TO.own_lt s.hK k hk).1), hL := TO.kept s.hL hg (fun k hk => hrow k (TO.own_lt s.hL k hk).1), nWK := s.nWK, nWL := s.nWL, nKL := s.nKL, rd := hrd, gb := s.gb, bb := s.bb, wb := s.wb, on := ⟨hg.os.trans s.on.os, hg.tape.trans s.on.tape, hg.output.trans s.on.output, Nat.le_trans s.on.size hg.size, fun i hi hne => (hg.block i (Nat.lt_of_lt_of_le hi s.on.size) (fun e => by
    rcases hr with rfl | rfl
    · exact hne e
    · cases e)).trans (s.on.block i hi hne)⟩ }
theorem FoS.pick {M : Nat} (s : FoS w u B g b N AW cW W x y z h AK cK K AL cL L) (hg : u.grownBy u' (some g)) (hrd : RD u' B g M) : FoS w u' B g b M AW cW W x y z h AK cK K AL cL L := s.rest (.inl rfl) hg hrd
theorem FoS.alloc (s : FoS w u B g b N AW cW W x y z h AK cK K AL cL L) (o : Obj) : FoS w (u.alloc o) B g b N AW cW W x y z h AK cK K AL cL L :=
  s.rest (.inl rfl) (on_alloc (on_refl u (some g)) o) (s.rd.alloc o)
theorem FoS.start {w0 : World} (s : FoS w u B g b N AW cW W x y z h AK cK K AL cL L) (h0 : w0.grownBy w (some g)) : FoS w0 u B g b N AW cW W x y z h AK cK K AL cL L :=
  { s with wb := Nat.le_trans h0.size s.wb, on := on_call s.on h0 }
/-- One width more, laid behind. -/
theorem FoS.app0 (s : FoS w u B g b N AW cW W x y z h AK cK K none 0 []) (hKe : obk AK = none) {A' : Option Addr} {c' : Nat} {v : Int} {u' : World} (hol : OL u' 3 (b + 1) A' c' (W ++ [v])) (hb : Below (b + 1) u u') : FoS w (u'.setCell ⟨b, 0, none⟩ (.slice A' (W.length + 1) c')) B g b N A' c' (W ++ [v]) x y z h AK cK K none 0 [] := by
  have hl := s.lt
  have hlt := hol.own_lt
  have hs : u'.grownBy (u'.setCell ⟨b, 0, none⟩ (.slice A' (W.length + 1) c')) (some b) := Lib.grownBy_setCell u' b 0 _
  have e : (W ++ [v]).length = W.length + 1 := by simp
  have hK' : TO u' 35 (b + 1) AK cK K := by
    have h1 := s.hK
    unfold TO at h1 ⊢
    rcases h1.2 with ⟨h2, h3⟩ | ⟨q, cap, cur, h2, h3⟩
    · exact ⟨h1.1, .inl ⟨h2, h3⟩⟩
    · injection h2 with h2
      subst h2
      cases hKe
  refine { fb := by rw [e]; exact (s.fb.of_block (hb.block b (by omega))).set0, hW := hol.kept hs (fun k hk q => by have := (hlt k hk).1; injection q with q; omega), hK := TO.kept hK' hs (fun k hk q => by rw [obk_eq] at hk; rw [hKe] at hk; cases hk), hL := World.ownsRow_nil _ _ _ _, nWK := fun k _ e => (by rw [hKe] at e; cases e), nWL := fun k _ e => (by cases e), nKL := fun k _ e => (by cases e), rd := ?_, gb := s.gb, bb := s.bb, wb := s.wb, on := ?_ }
  · have h1 : RD u' B g N := (s.rd.keep (fun q hq => hb.cell (Nat.lt_of_lt_of_le hq (by have := s.bb; omega))) (fun q hq => hb.frozen (Nat.lt_of_lt_of_le hq (by have := s.bb; omega))) hb.size)
    exact RD.set_ h1 (p := ⟨b, 0, none⟩) s.bb _
  · exact on_set ⟨hb.os.trans s.on.os, hb.tape.trans s.on.tape, hb.output.trans s.on.output, Nat.le_trans s.on.size hb.size, fun i hi hne => (hb.block i (by have := s.wb; omega)).trans (s.on.block i hi hne)⟩ (.inr s.wb) _
theorem FoS.rdset (s : FoS w u B g b N AW cW W x y z h AK cK K AL cL L) {u' : World} (hb : Below (b + 1) u u') (j : Nat) (v : Value) : RD (u'.setCell ⟨b, j, none⟩ v) B g N ∧ w.grownBy (u'.setCell ⟨b, j, none⟩ v) (some g) := by
  have h1 : RD u' B g N := (s.rd.keep (fun q hq => hb.cell (Nat.lt_of_lt_of_le hq (by have := s.bb; omega))) (fun q hq => hb.frozen (Nat.lt_of_lt_of_le hq (by have := s.bb; omega))) hb.size)
  exact ⟨RD.set_ h1 (p := ⟨b, j, none⟩) s.bb _, on_set ⟨hb.os.trans s.on.os, hb.tape.trans s.on.tape, hb.output.trans s.on.output, Nat.le_trans s.on.size hb.size, fun i hi hne => (hb.block i (by have := s.wb; omega)).trans (s.on.block i hi hne)⟩ (.inr s.wb) _⟩
/-- A kern more. -/
theorem FoS.app5 (s : FoS w u B g b N AW cW W x y z h AK cK K AL cL L) {g' c' : Nat} {r : Gp} {u' : World} (hol : TO u' 35 (b + 1) (some ⟨g', 0, none⟩) c' (K ++ [r])) (hb : Below (b + 1) u u') (hg : u.grownBy u' (obk AK)) (hat : obk AK = some g' ∨ g' = u.heap.size) : FoS w (u'.setCell ⟨b, 5, none⟩ (.slice (some ⟨g', 0, none⟩) (K.length + 1) c')) B g b N AW cW W x y z h (some ⟨g', 0, none⟩) c' (K ++ [r]) AL cL L := by
  have hl := s.lt
  have hs : u'.grownBy (u'.setCell ⟨b, 5, none⟩ (.slice (some ⟨g', 0, none⟩) (K.length + 1) c')) (some b) := Lib.grownBy_setCell u' b 5 _
  have e : (K ++ [r]).length = K.length + 1 := by simp
  have hW' : OL u' 3 (b + 1) AW cW W := s.hW.kept hg (fun k hk q => s.nWK k (by rw [← obk_eq AW]; exact hk) q)
  have hL' : TO u' 35 (b + 1) AL cL L := TO.kept s.hL hg (fun k hk q => s.nKL k q (by rw [← obk_eq AL]; exact hk))
  obtain ⟨r1, r2⟩ := s.rdset hb 5 (.slice (some ⟨g', 0, none⟩) (K.length + 1) c')
  refine { fb := by rw [e]; exact (s.fb.of_block (hb.block b (by omega))).set5, hW := hW'.kept hs (fun k hk q => by have := (hW'.own_lt k hk).1; injection q with q; omega), hK := TO.kept hol hs (fun k hk q => by have := (TO.own_lt hol k hk).1; injection q with q; omega), hL := TO.kept hL' hs (fun k hk q => by have := (TO.own_lt hL' k hk).1; injection q with q; omega), nWK := fun k hk q => ?_, nWL := s.nWL, nKL := fun k hk q => ?_, rd := r1, gb := s.gb, bb := s.bb, wb := s.wb, on := r2 }
  · have q : g' = k := by injection q
    rcases hat with h1 | h1
    · exact s.nWK k hk (by rw [h1, q])
    · have := (s.hW.own_lt k (by rw [obk_eq]; exact hk)).2; omega
  · have hk : g' = k := by injection hk
    rcases hat with h1 | h1
    · exact s.nKL k (by rw [h1, hk]) q
    · have := (TO.own_lt s.hL k (by rw [obk_eq]; exact q)).2; omega
/-- A ligature more. -/
theorem FoS.app6 (s : FoS w u B g b N AW cW W x y z h AK cK K AL cL L) {g' c' : Nat} {r : Gp} {u' : World} (hol : TO u' 35 (b + 1) (some ⟨g', 0, none⟩) c' (L ++ [r])) (hb : Below (b + 1) u u') (hg : u.grownBy u' (obk AL)) (hat : obk AL = some g' ∨ g' = u.heap.size) : FoS w (u'.setCell ⟨b, 6, none⟩ (.slice (some ⟨g', 0, none⟩) (L.length + 1) c')) B g b N AW cW W x y z h AK cK K (some ⟨g', 0, none⟩) c' (L ++ [r]) := by
  have hl := s.lt
  have hs : u'.grownBy (u'.setCell ⟨b, 6, none⟩ (.slice (some ⟨g', 0, none⟩) (L.length + 1) c')) (some b) := Lib.grownBy_setCell u' b 6 _
  have e : (L ++ [r]).length = L.length + 1 := by simp
  have hW' : OL u' 3 (b + 1) AW cW W := s.hW.kept hg (fun k hk q => s.nWL k (by rw [← obk_eq AW]; exact hk) q)
  have hK' : TO u' 35 (b + 1) AK cK K := TO.kept s.hK hg (fun k hk q => s.nKL k (by rw [← obk_eq AK]; exact hk) q)
  obtain ⟨r1, r2⟩ := s.rdset hb 6 (.slice (some ⟨g', 0, none⟩) (L.length + 1) c')
  refine { fb := by rw [e]; exact (s.fb.of_block (hb.block b (by omega))).set6, hW := hW'.kept hs (fun k hk q => by have := (hW'.own_lt k hk).1; injection q with q; omega), hL := TO.kept hol hs (fun k hk q => by have := (TO.own_lt hol k hk).1; injection q with q; omega), hK := TO.kept hK' hs (fun k hk q => by have := (TO.own_lt hK' k hk).1; injection q with q; omega), nWK := s.nWK, nWL := fun k hk q => ?_, nKL := fun k hk q => ?_, rd := r1, gb := s.gb, bb := s.bb, wb := s.wb, on := r2 }
  · have q : g' = k := by injection q
    rcases hat with h1 | h1
    · exact s.nWL k hk (by rw [h1, q])
    · have := (s.hW.own_lt k (by rw [obk_eq]; exact hk)).2; omega
  · have q : g' = k := by injection q
    rcases hat with h1 | h1
    · exact s.nKL k hk (by rw [h1, q])
    · have := (TO.own_lt s.hK k (by rw [obk_eq]; exact hk)).2; omega
theorem FoS.setR (s : FoS w u B g b N AW cW W x y z h AK cK K AL cL L) {r j : Nat} {v : Value} (h1 : w.heap.size ≤ r) (h2 : r < b) (h3 : B ≤ r) : FoS w (u.setCell ⟨r, j, none⟩ v) B g b N AW cW W x y z h AK cK K AL cL L := by
  have hs : u.grownBy (u.setCell ⟨r, j, none⟩ v) (some r) := Lib.grownBy_setCell u r j _
  exact { fb := s.fb.of_block (hs.block b s.lt (fun q => by injection q with q; omega)), hW := s.hW.kept hs (fun k hk q => by have := (s.hW.own_lt k hk).1; injection q with q; omega), hK := TO.kept s.hK hs (fun k hk q => by have := (TO.own_lt s.hK k hk).1; injection q with q; omega), hL := TO.kept s.hL hs (fun k hk q => by have := (TO.own_lt s.hL k hk).1; injection q with q; omega), nWK := s.nWK, nWL := s.nWL, nKL := s.nKL, rd := RD.set_ s.rd (p := ⟨r, j, none⟩) h3 _, gb := s.gb, bb := s.bb, wb := s.wb, on := on_set s.on (.inr h1) _ }
end
set_option maxHeartbeats 8000000 in
theorem randomFont_any (w : World) (B g N : Nat) (h : RD w B g N) (hN : N ≤ 1000000) (hB : B ≤ w.heap.size) :
    Calls Try.prog 36 #[.pointer (some ⟨g, 0, none⟩)] w fun e w' => ∃ (b : Nat) (AW : Option Addr) (cW : Nat) (W : List Int) (x y z h : Int) (AK : Option Addr) (cK : Nat) (K : List Gp) (AL : Option Addr) (cL : Nat) (L : List Gp), e = .returned (fv AW W.length cW x y z h AK K.length cK AL L.length cL) ∧ FoS w w' B g b (N + 80) AW cW W x y z h AK cK K AL cL L ∧ W.length = 36 ∧ K.length ≤ 3 ∧ L.length ≤ 4 := by
  obtain ⟨i0, hi0, jz0, jz1, jz2⟩ := info_parts int_info
  obtain ⟨i1, hi1, kz0, kz1, kz2⟩ := info_parts gp_infoF
  have hg := h.lt
  go_enter Try.func36, Try.ntmps36
  go_wp2_with fail
  (with_reducible refine (pick_any _ _ _ _ _ (RD.alloc h _) (by omega) (by omega) (by omega)).mono ?_)
  rintro e u1 ⟨r1, _, _, rfl, hrd1, hon1⟩
  obtain ⟨w1, hw1, rc, hzw, hgw⟩ := ret_cell hon1
  rw [← hw1] at hon1
  have RC := hide rc
  have O1 := hide hon1
  have hz1 := hon1.size
  clear hon1 h hw1 rc
  go_wp2_with fail
  (with_reducible refine (pick_any _ _ _ _ _ hrd1 (by omega) (by omega) (by omega)).mono ?_)
  rintro e u2 ⟨r2, _, _, rfl, hrd2, hon2⟩
  have O2 := hide (on_call hon2 O1.out)
  have hz2 := hon2.size
  clear hon2 hrd1
  go_wp2_with fail
  (with_reducible refine (pick_any _ _ _ _ _ hrd2 (by omega) (by omega) (by omega)).mono ?_)
  rintro e u3 ⟨r3, _, _, rfl, hrd3, hon3⟩
  have O3 := hide (on_call hon3 O2.out)
  have hz3 := hon3.size
  clear hon3 hrd2
  go_wp2_with fail
  (with_reducible refine (pick_any _ _ _ _ _ hrd3 (by omega) (by omega) (by omega)).mono ?_)
  rintro e u4 ⟨r4, _, _, rfl, hrd4, hon4⟩
  have O4 := hide (on_call hon4 O3.out)
  have hz4 := hon4.size
  clear hon4 hrd3
  have HRD := hide hrd4
  clear hrd4
  have S0 : FoS w1 (u4.alloc (.cells #[.slice none 0 0, .int .i64 (3 + r1), .int .i64 (1 + r2), .int .i64 r3, .int .i64 r4, .slice none 0 0, .slice none 0 0] 28)) B g u4.heap.size (N + 4) none 0 [] (3 + r1) (1 + r2) r3 r4 none 0 [] none 0 [] :=
    { fb := ⟨by simp [go_sem], by simp [go_sem], by simp [go_sem], by simp [go_sem], by simp [go_sem], by simp [go_sem], by simp [go_sem], fun j => by simp [go_sem]⟩, hW := World.ownsRow_nil _ _ _ _, hK := World.ownsRow_nil _ _ _ _, hL := World.ownsRow_nil _ _ _ _, nWK := fun k e => (by cases e), nWL := fun k e => (by cases e), nKL := fun k e => (by cases e), rd := HRD.out.alloc _, gb := by omega, bb := by omega, wb := by omega, on := on_alloc O4.out _ }
  have HS0 := hide S0
  have hwb : w.heap.size < u4.heap.size := by omega
  have hgb : g < u4.heap.size := by omega
  obtain ⟨b, hbe⟩ : ∃ b, b = u4.heap.size := ⟨_, rfl⟩
  have HBE := hide hbe
  clear S0 HRD O1 O2 O3 O4
  go_wp2
  rw [← hbe] at HS0 hwb hgb ⊢
  obtain ⟨V, hV⟩ : ∃ V, V = u4.alloc (.cells #[.slice none 0 0, .int .i64 (3 + r1), .int .i64 (1 + r2), .int .i64 r3, .int .i64 r4, .slice none 0 0, .slice none 0 0] 28) := ⟨_, rfl⟩
  rw [← hV] at HS0 ⊢
  clear hV hbe HBE hz1 hz2 hz3 hz4
  go_loopw [4] (fun i u => ∃ (p : Nat) (AW : Option Addr) (cW : Nat) (W : List Int), p ≤ 36 ∧ i = .int .i64 p ∧ p = W.length ∧ FoS w1 u B g b (N + 4 + p) AW cW W (3 + r1) (1 + r2) r3 r4 none 0 [] none 0 []) (fun i _ => 36 - (intOf i).toNat)
  case atStart => exact ⟨0, none, 0, [], by omega, rfl, rfl, HS0.out⟩
  case round =>
    obtain ⟨p, AW, cW, W, hp, rfl, hpl, hs⟩ := hrel
    have HPL := hide hpl
    have HS := hide hs
    have c0 := hs.fb.c0
    have c5 := hs.fb.c5
    have c6 := hs.fb.c6
    have hlb := hs.lt
    clear hpl hs HS0
    by_cases hlt : p < 36
    · have hbB := HS.out.bb
      go_wp2
      go_region_law (first | (go_simp; go_at_call 27; (with_reducible refine (pick_any _ _ _ _ 2 (by first | exact HS.out.rd | exact RD.drew HS.out.rd) (by omega) (by omega) (by omega)).mono ?_); rintro e wp ⟨r, hr0, hr1, rfl, hrd1, hon1⟩; (try (with_reducible have hon1 := on_undrew hon1)); replace HS := hide (HS.out.pick hon1 hrd1); (replace c0 := HS.out.fb.c0; replace c5 := HS.out.fb.c5; replace c6 := HS.out.fb.c6; replace hlb := HS.out.lt); clear hon1 hrd1) | (refine step_append_int rfl (.tmp 24) (.tmp 32) _ rfl 3 i0 Try.underlying23 hi0 jz0 jz1 jz2 (b + 1) AW cW W.length W rfl rfl (HS.out.hW.alloc _) wp.heap.size _ rfl (cellF_new rfl) (by have := HPL.out; omega) (by simp; omega) ?_; intro A' c' wa hol' hb' hg'; have c0 := (hb'.cell (p := ⟨b, 0, none⟩) (Nat.lt_succ_self b)).trans (HS.out.alloc _).fb.c0; have z0 := (hb'.frozen (p := ⟨b, 0, none⟩) (Nat.lt_succ_self b)).trans ((HS.out.alloc _).fb.fz 0); have HA := hide ((HS.out.alloc _).app0 rfl hol' hb')))
      all_goals
        go_wp2
        go_roundw
        case rel => exact ⟨p + 1, A', c', _, by omega, by go_num, by simp [HPL.out], HA.out.more (by omega)⟩
        case measure => simp [intOf]; omega
    · have HW36 := hide (show W.length = 36 by have := HPL.out; omega)
      have S1 := hide (HS.out.more (M := N + 40) (by omega))
      clear HPL HS
      go_wp2
      clear c0 c5 c6 hlb
      go_loopw [5] (fun i u => ∃ (q : Nat) (AK : Option Addr) (cK : Nat) (K : List Gp), q ≤ 3 ∧ i = .int .i64 q ∧ K.length ≤ q ∧ FoS w1 u B g b (N + 40 + 3 * q) AW cW W (3 + r1) (1 + r2) r3 r4 AK cK K none 0 []) (fun i _ => 3 - (intOf i).toNat)
      case atStart => exact ⟨0, none, 0, [], by omega, rfl, by simp, S1.out⟩
      case round =>
        obtain ⟨q, AK, cK, K, hq, rfl, hKq, hs⟩ := hrel
        have HS := hide hs
        have c0 := hs.fb.c0
        have c5 := hs.fb.c5
        have c6 := hs.fb.c6
        have hlb := hs.lt
        clear hs S1
        by_cases hlt : q < 3
        · have hbB := HS.out.bb
          go_wp2_with fail
          (with_reducible refine (pick_any _ _ _ _ 2 HS.out.rd (by omega) (by omega) (by omega)).mono ?_)
          rintro e wp ⟨r, hr0, hr1, rfl, hrd1, hon1⟩
          replace HS := hide (HS.out.pick hon1 hrd1)
          (replace c0 := HS.out.fb.c0; replace c5 := HS.out.fb.c5; replace c6 := HS.out.fb.c6; replace hlb := HS.out.lt)
          clear hon1 hrd1
          rcases (by omega : r = 0 ∨ r ≠ 0) with rfl | hr
          · go_wp2
            go_region_law (first | (go_simp; go_at_call 27; (with_reducible refine (pick_any _ _ _ _ 4 (by first | exact HS.out.rd | exact RD.drew HS.out.rd) (by omega) (by omega) (by omega)).mono ?_); rintro e wp ⟨x4, h40, h41, rfl, hrd1, hon1⟩; (try (with_reducible have hon1 := on_undrew hon1)); replace HS := hide (HS.out.pick hon1 hrd1); (replace c0 := HS.out.fb.c0; replace c5 := HS.out.fb.c5; replace c6 := HS.out.fb.c6; replace hlb := HS.out.lt); clear hon1 hrd1) | (go_simp; go_at_call 27; (with_reducible refine (pick_any _ _ _ _ 5 (by first | exact HS.out.rd | exact RD.drew HS.out.rd) (by omega) (by omega) (by omega)).mono ?_); rintro e wp ⟨x5, h50, h51, rfl, hrd1, hon1⟩; (try (with_reducible have hon1 := on_undrew hon1)); replace HS := hide (HS.out.pick hon1 hrd1); (replace c0 := HS.out.fb.c0; replace c5 := HS.out.fb.c5; replace c6 := HS.out.fb.c6; replace hlb := HS.out.lt); clear hon1 hrd1) | (refine step_append_rec (α := Gp) (r := ⟨_, _, _⟩) rfl (.tmp 43) (.tmp 51) _ rfl 35 i1 _ 24 Try.underlying26 hi1 kz0 kz1 kz2 rfl (by decide) (b + 1) AK cK K.length K rfl rfl (TO.below HS.out.hK (bl_alloc (bl_refl _) _)) wp.heap.size rfl (ones3 _) (cells3_at rfl) (by omega) (by simp; omega) _ rfl ?_; intro g' c' wa hol' hb' hg' hat' hlt'; rw [obk_eq] at hg' hat'; have c5 := (hb'.cell (p := ⟨b, 5, none⟩) (Nat.lt_succ_self b)).trans (HS.out.alloc _).fb.c5; have zz := (hb'.frozen (p := ⟨b, 5, none⟩) (Nat.lt_succ_self b)).trans ((HS.out.alloc _).fb.fz 5); have HA := hide ((HS.out.alloc _).app5 hol' hb' hg' hat')))
            all_goals
              go_wp2
              go_roundw
              case rel => exact ⟨q + 1, _, c', _, by omega, by go_num, by simp; omega, HA.out.more (by omega)⟩
              case measure => simp [intOf]; omega
          · have g0 : (r == 0) = false := beq_eq_false_iff_ne.2 hr
            go_wp2
            go_roundw
            case rel => exact ⟨q + 1, AK, cK, K, by omega, by go_num, by omega, HS.out.more (by omega)⟩
            case measure => simp [intOf]; omega
        · have hK3 : K.length ≤ 3 := by omega
          have S2 := hide (HS.out.more (M := N + 55) (by omega))
          clear HS
          go_wp2
          clear c0 c5 c6 hlb
          go_loopw [6] (fun i u => ∃ (q : Nat) (AL : Option Addr) (cL : Nat) (L : List Gp), q ≤ 3 ∧ i = .int .i64 q ∧ L.length ≤ q ∧ FoS w1 u B g b (N + 55 + 3 * q) AW cW W (3 + r1) (1 + r2) r3 r4 AK cK K AL cL L) (fun i _ => 3 - (intOf i).toNat)
          case atStart => exact ⟨0, none, 0, [], by omega, rfl, by simp, S2.out⟩
          case round =>
            obtain ⟨q, AL, cL, L, hq, rfl, hLq, hs⟩ := hrel
            have HS := hide hs
            have c0 := hs.fb.c0
            have c5 := hs.fb.c5
            have c6 := hs.fb.c6
            have hlb := hs.lt
            have hbB := HS.out.bb
            clear hs S2
            by_cases hlt : q < 3
            · go_wp2_with fail
              (with_reducible refine (pick_any _ _ _ _ 2 HS.out.rd (by omega) (by omega) (by omega)).mono ?_)
              rintro e wp ⟨r, hr0, hr1, rfl, hrd1, hon1⟩
              replace HS := hide (HS.out.pick hon1 hrd1)
              (replace c0 := HS.out.fb.c0; replace c5 := HS.out.fb.c5; replace c6 := HS.out.fb.c6; replace hlb := HS.out.lt)
              clear hon1 hrd1
              rcases (by omega : r = 0 ∨ r ≠ 0) with rfl | hr
              · go_wp2
                go_region_law (first | (go_simp; go_at_call 27; (with_reducible refine (pick_any _ _ _ _ 4 (by first | exact HS.out.rd | exact RD.drew HS.out.rd) (by omega) (by omega) (by omega)).mono ?_); (first | (have _k := x4; rintro e wp ⟨x5, h50, h51, rfl, hrd1, hon1⟩) | rintro e wp ⟨x4, h40, h41, rfl, hrd1, hon1⟩); (try (with_reducible have hon1 := on_undrew hon1)); replace HS := hide (HS.out.pick hon1 hrd1); (replace c0 := HS.out.fb.c0; replace c5 := HS.out.fb.c5; replace c6 := HS.out.fb.c6; replace hlb := HS.out.lt); clear hon1 hrd1) | (refine step_append_rec (α := Gp) (r := ⟨_, _, _⟩) rfl (.tmp 62) (.tmp 70) _ rfl 35 i1 _ 24 Try.underlying26 hi1 kz0 kz1 kz2 rfl (by decide) (b + 1) AL cL L.length L rfl rfl (TO.below HS.out.hL (bl_alloc (bl_refl _) _)) wp.heap.size rfl (ones3 _) (cells3_at rfl) (by omega) (by simp; omega) _ rfl ?_; intro g' c' wa hol' hb' hg' hat' hlt'; rw [obk_eq] at hg' hat'; have c6 := (hb'.cell (p := ⟨b, 6, none⟩) (Nat.lt_succ_self b)).trans (HS.out.alloc _).fb.c6; have zz := (hb'.frozen (p := ⟨b, 6, none⟩) (Nat.lt_succ_self b)).trans ((HS.out.alloc _).fb.fz 6); have HA := hide ((HS.out.alloc _).app6 hol' hb' hg' hat')) )
                all_goals
                  go_wp2
                  go_roundw
                  case rel => exact ⟨q + 1, _, c', _, by omega, by go_num, by simp; omega, HA.out.more (by omega)⟩
                  case measure => simp [intOf]; omega
              · have g0 : (r == 0) = false := beq_eq_false_iff_ne.2 hr
                go_wp2
                go_roundw
                case rel => exact ⟨q + 1, AL, cL, L, by omega, by go_num, by omega, HS.out.more (by omega)⟩
                case measure => simp [intOf]; omega
            · have S3 := hide (HS.out.more (M := N + 70) (by omega))
              clear HS
              go_wp2_with fail
              (with_reducible refine (pick_any _ _ _ _ 3 S3.out.rd (by omega) (by omega) (by omega)).mono ?_)
              rintro e wp ⟨r, hr0, hr1, rfl, hrd1, hon1⟩
              have HS := hide (S3.out.pick hon1 hrd1)
              (replace c0 := HS.out.fb.c0; replace c5 := HS.out.fb.c5; replace c6 := HS.out.fb.c6; replace hlb := HS.out.lt)
              have c1 := HS.out.fb.c1
              have c2 := HS.out.fb.c2
              have c3 := HS.out.fb.c3
              have c4 := HS.out.fb.c4
              clear hon1 hrd1 S3
              rcases (by omega : r = 0 ∨ r ≠ 0) with rfl | hr
              · go_wp2
                go_region_law (first | (go_simp; go_at_call 27; (with_reducible refine (pick_any _ _ _ _ 4 (by first | exact HS.out.rd | exact RD.drew HS.out.rd) (by omega) (by omega) (by omega)).mono ?_); rintro e wp ⟨x4, h40, h41, rfl, hrd1, hon1⟩; (try (with_reducible have hon1 := on_undrew hon1)); replace HS := hide (HS.out.pick hon1 hrd1); (replace c0 := HS.out.fb.c0; replace c5 := HS.out.fb.c5; replace c6 := HS.out.fb.c6; replace hlb := HS.out.lt); clear hon1 hrd1) | (refine step_append_rec (α := Gp) (r := ⟨_, _, _⟩) rfl (.tmp 77) (.tmp 81) _ rfl 35 i1 _ 24 Try.underlying26 hi1 kz0 kz1 kz2 rfl (by decide) (b + 1) AL cL L.length L rfl rfl (TO.below HS.out.hL (bl_alloc (bl_refl _) _)) wp.heap.size rfl (ones3 _) (cells3_at rfl) (by omega) (by simp; omega) _ rfl ?_; intro g' c' wa hol' hb' hg' hat' hlt'; rw [obk_eq] at hg' hat'; have c6 := (hb'.cell (p := ⟨b, 6, none⟩) (Nat.lt_succ_self b)).trans (HS.out.alloc _).fb.c6; have zz := (hb'.frozen (p := ⟨b, 6, none⟩) (Nat.lt_succ_self b)).trans ((HS.out.alloc _).fb.fz 6); have HA := hide ((HS.out.alloc _).app6 hol' hb' hg' hat')))
                all_goals
                  have HA2 := HA.out
                  have c0 := HA2.fb.c0
                  have c1 := HA2.fb.c1
                  have c2 := HA2.fb.c2
                  have c3 := HA2.fb.c3
                  have c4 := HA2.fb.c4
                  have c5 := HA2.fb.c5
                  have c6 := HA2.fb.c6
                  (have rcf := RC.out.of_block (HA2.on.block w.heap.size (by omega) (fun q => by injection q with q; omega)); have d0 := rcf.c0; have d1 := rcf.c1; have d2 := rcf.c2; have d3 := rcf.c3; have d4 := rcf.c4; have d5 := rcf.c5; have d6 := rcf.c6; have y0 := rcf.fz 0; have y1 := rcf.fz 1; have y2 := rcf.fz 2; have y3 := rcf.fz 3; have y4 := rcf.fz 4; have y5 := rcf.fz 5; have y6 := rcf.fz 6; clear rcf)
                  have SX := hide ((HA2.more (M := N + 80) (by omega)).start hgw)
                  clear HA HA2 HS
                  go_wp2
                  refine bodyPost_ret (v := fv AW W.length cW (3 + r1) (1 + r2) r3 r4 AK K.length cK (some ⟨g', 0, none⟩) (L.length + 1) c') ?_ rfl ?_
                  · simp [results, Try.results36, go_sem, *]
                  exact ⟨b, AW, cW, W, 3 + r1, 1 + r2, r3, r4, AK, cK, K, some ⟨g', 0, none⟩, c', L ++ [⟨26, x4, 30⟩], by simp, (by repeat' (first | with_reducible exact SX.out | refine FoS.setR ?_ (Nat.le_refl _) hwb hB)), HW36.out, hK3, by simp; omega⟩
              · have g0 : (r == 0) = false := beq_eq_false_iff_ne.2 hr
                (have rcf := RC.out.of_block (HS.out.on.block w.heap.size (by omega) (fun q => by injection q with q; omega)); have d0 := rcf.c0; have d1 := rcf.c1; have d2 := rcf.c2; have d3 := rcf.c3; have d4 := rcf.c4; have d5 := rcf.c5; have d6 := rcf.c6; have y0 := rcf.fz 0; have y1 := rcf.fz 1; have y2 := rcf.fz 2; have y3 := rcf.fz 3; have y4 := rcf.fz 4; have y5 := rcf.fz 5; have y6 := rcf.fz 6; clear rcf)
                have SX := hide ((HS.out.more (M := N + 80) (by omega)).start hgw)
                clear HS
                go_wp2
                refine bodyPost_ret (v := fv AW W.length cW (3 + r1) (1 + r2) r3 r4 AK K.length cK AL L.length cL) ?_ rfl ?_
                · simp [results, Try.results36, go_sem, *]
                exact ⟨b, AW, cW, W, _, _, _, _, AK, cK, K, AL, cL, L, rfl, (by repeat' (first | with_reducible exact SX.out | refine FoS.setR ?_ (Nat.le_refl _) hwb hB)), HW36.out, hK3, by omega⟩
end Go.Proofs.Ytlfhfbeacleggab
