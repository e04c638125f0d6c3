/- Drawn fonts: any font. -/
import Derived.Test.YtlfhfbeacleggabDrawFo
namespace Go.Proofs.Ytlfhfbeacleggab
open Go.ChangeShapes Go.WideShapes Go.ChangeAt Go.RowKit
set_option linter.unusedVariables false
set_option linter.unusedSimpArgs false
set_option maxRecDepth 4000

/-- A value that reads as a font, whatever the reader reads later. -/
def FRg (u : World) (g : Nat) (v : Value) (f : Ft) : Prop := ∀ u' : World, (∀ k, g < k → k < u.heap.size → u'.heap[k]? = u.heap[k]?) → u.heap.size ≤ u'.heap.size → FR u' v f
theorem FRg.grow {u u' : World} {g : Nat} {v : Value} {f : Ft} (h : FRg u g v f) (hk : ∀ k, g < k → k < u.heap.size → u'.heap[k]? = u.heap[k]?) (hz : u.heap.size ≤ u'.heap.size) : FRg u' g v f :=
  fun u2 h2 z2 => h u2 (fun k h3 h4 => (h2 k h3 (Nat.lt_of_lt_of_le h4 hz)).trans (hk k h3 h4)) (Nat.le_trans hz z2)
theorem FRg.more {u u' : World} {g : Nat} {v : Value} {f : Ft} (h : FRg u g v f) (hg : u.grownBy u' (some g)) : FRg u' g v f :=
  h.grow (fun k h1 h2 => hg.block k h2 (fun e => by injection e with e; omega)) hg.size
theorem FRg.setR {u : World} {g r j : Nat} {v x : Value} {f : Ft} (h : FRg u g v f) (hr : r ≤ g) : FRg (u.setCell ⟨r, j, none⟩ x) g v f :=
  h.grow (fun k h1 h2 => (Lib.grownBy_setCell u r j x).block k h2 (fun e => by injection e with e; omega)) (Lib.grownBy_setCell u r j x).size
theorem FRg.reads {u : World} {g : Nat} {v : Value} {f : Ft} (h : FRg u g v f) : FR u v f := h u (fun _ _ _ => rfl) (Nat.le_refl _)
theorem IL.keepB {u u' : World} {A : Option Addr} {n : Nat} {l : List Int} (h : IL u A n l) (hq : 0 < n → ∀ q o, A = some ⟨q, o, none⟩ → u'.heap[q]? = u.heap[q]?) (hz : u.heap.size ≤ u'.heap.size) : IL u' A n l :=
  ⟨h.1, fun h0 => by
    obtain ⟨b, o, e, hl, hc⟩ := h.2 h0
    exact ⟨b, o, e, Nat.lt_of_lt_of_le hl hz, fun i hi => (World.cell?_of_block (a := ⟨b, o + i, none⟩) (hq h0 b o e)).trans (hc i hi)⟩⟩
theorem TL.keepB {α : Type} [Rec α] {u u' : World} {A : Option Addr} {n : Nat} {L : List α} (h : TL u A n L) (hq : 0 < n → ∀ q o, A = some ⟨q, o, none⟩ → u'.heap[q]? = u.heap[q]?) (hz : u.heap.size ≤ u'.heap.size) : TL u' A n L :=
  ⟨h.1, fun h0 => by
    obtain ⟨b, o, e, hl, hc⟩ := h.2 h0
    exact ⟨b, o, e, Nat.lt_of_lt_of_le hl hz, fun i hi j hj => (World.cell?_of_block (a := ⟨b, o + i * Rec.size α + j, none⟩) (hq h0 b o e)).trans (hc i hi j hj)⟩⟩
theorem OL.readG {u u' : World} {e : TypeId} {b c g : Nat} {A : Option Addr} {l : List Int} (h : OL u e (b + 1) A c l) (hlt : g < b) (hk : ∀ k, g < k → k < u.heap.size → u'.heap[k]? = u.heap[k]?) (hz : u.heap.size ≤ u'.heap.size) : IL u' A l.length l :=
  h.reads.keepB (fun h0 q o e => by
    obtain ⟨g', e', h1, h2, _⟩ := h.form h0
    rw [e'] at e
    injection e with e
    injection e with e
    subst e
    exact hk _ (by omega) h2) hz
theorem TO.readG {α : Type} [Rec α] {u u' : World} {e : TypeId} {b c g : Nat} {A : Option Addr} {L : List α} (h : TO u e (b + 1) A c L) (hlt : g < b) (hk : ∀ k, g < k → k < u.heap.size → u'.heap[k]? = u.heap[k]?) (hz : u.heap.size ≤ u'.heap.size) : TL u' A L.length L :=
  h.reads.keepB (fun h0 q o e => by
    obtain ⟨g', e', h1, h2, _⟩ := h.form h0
    rw [e'] at e
    injection e with e
    injection e with e
    subst e
    exact hk _ (by omega) h2) hz
/-- A copy of a font: its own cells at c, rows from b on. -/
structure FoC (w u : World) (B g b c N : Nat) (AW : Option Addr) (cW : Nat) (W : List Int) (x y z h : Int) (AK : Option Addr) (cK : Nat) (K : List Gp) (AL : Option Addr) (cL : Nat) (L : List Gp) : Prop where
  fb : FB u c (.slice AW W.length cW) (.int .i64 x) (.int .i64 y) (.int .i64 z) (.int .i64 h) (.slice AK K.length cK) (.slice AL L.length cL)
  hW : OL u 3 (b + 1) AW cW W
  hK : TO u 35 (b + 1) AK cK K
  hL : TO u 35 (b + 1) AL cL L
  nWK : ∀ k, obk AW = some k → obk AK ≠ some k
  nWL : ∀ k, obk AW = some k → obk AL ≠ some k
  nKL : ∀ k, obk AK = some k → obk AL ≠ some k
  oW : obk AW ≠ some c
  oK : obk AK ≠ some c
  oL : obk AL ≠ some c
  bc : b < c
  rd : RD u B g N
  gb : g < b
  bb : B ≤ b
  wb : w.heap.size ≤ b
  on : w.grownBy u (some g)
section
variable {w u u' : World} {B g b c N : Nat} {AW : Option Addr} {cW : Nat} {W : List Int} {x y z h : Int} {AK : Option Addr} {cK : Nat} {K : List Gp} {AL : Option Addr} {cL : Nat} {L : List Gp}
theorem FoC.lt (s : FoC w u B g b c N AW cW W x y z h AK cK K AL cL L) : c < u.heap.size := s.fb.lt
theorem FoC.more {M : Nat} (s : FoC w u B g b c N AW cW W x y z h AK cK K AL cL L) (hm : N ≤ M) : FoC w u B g b c M AW cW W x y z h AK cK K AL cL L :=
  { s with rd := s.rd.more hm (Nat.le_refl _) s.rd.2.1 }
theorem FoC.pick {M : Nat} (s : FoC w u B g b c N AW cW W x y z h AK cK K AL cL L) (hg : u.grownBy u' (some g)) (hrd : RD u' B g M) : FoC w u' B g b c M AW cW W x y z h AK cK K AL cL L := by
  have hl := s.lt
  have h1 := s.gb
  have h2 := s.bc
  have hrow : ∀ k, b + 1 ≤ k → some g ≠ some k := fun k h1 e => by
    injection e with e; omega
  exact { s with fb := s.fb.of_block (hg.block c hl (fun e => by injection e with e; omega)), hW := s.hW.kept hg (fun k hk => hrow k (s.hW.own_lt k hk).1), hK := TO.kept s.hK hg (fun k hk => hrow k (TO.own_lt s.hK k hk).1), hL := TO.kept s.hL hg (fun k hk => hrow k (TO.own_lt s.hL k hk).1), rd := hrd, on := on_call hg s.on }
theorem FoC.alloc (s : FoC w u B g b c N AW cW W x y z h AK cK K AL cL L) (o : Obj) : FoC w (u.alloc o) B g b c N AW cW W x y z h AK cK K AL cL L :=
  s.pick (on_alloc (on_refl u (some g)) o) (s.rd.alloc o)
theorem FoC.setR (s : FoC w u B g b c N AW cW W x y z h AK cK K AL cL L) {r j : Nat} {v : Value} (h1 : w.heap.size ≤ r) (h2 : r < b) (h3 : B ≤ r) : FoC w (u.setCell ⟨r, j, none⟩ v) B g b c N AW cW W x y z h AK cK K AL cL L := by
  have hs : u.grownBy (u.setCell ⟨r, j, none⟩ v) (some r) := Lib.grownBy_setCell u r j _
  have h4 := s.bc
  exact { s with fb := s.fb.of_block (hs.block c s.lt (fun q => by injection q with q; omega)), hW := s.hW.kept hs (fun k hk q => by have := (s.hW.own_lt k hk).1; injection q with q; omega), hK := TO.kept s.hK hs (fun k hk q => by have := (TO.own_lt s.hK k hk).1; injection q with q; omega), hL := TO.kept s.hL hs (fun k hk q => by have := (TO.own_lt s.hL k hk).1; injection q with q; omega), rd := RD.set_ s.rd (p := ⟨r, j, none⟩) h3 _, on := on_set s.on (.inr h1) _ }
/-- A store to a cell of its own. -/
theorem FoC.setC (s : FoC w u B g b c N AW cW W x y z h AK cK K AL cL L) {j : Nat} {v : Value} {u' : World} (e : u' = u.setCell ⟨c, j, none⟩ v) : OL u' 3 (b + 1) AW cW W ∧ TO u' 35 (b + 1) AK cK K ∧ TO u' 35 (b + 1) AL cL L ∧ RD u' B g N ∧ w.grownBy u' (some g) := by
  subst e
  have hs : u.grownBy (u.setCell ⟨c, j, none⟩ v) (some c) := Lib.grownBy_setCell u c j _
  have h4 := s.bc
  have h5 := s.bb
  have h6 := s.wb
  exact ⟨s.hW.kept hs (fun k hk q => by rw [obk_eq] at hk; injection q with q; exact s.oW (by rw [hk, q])), TO.kept s.hK hs (fun k hk q => by rw [obk_eq] at hk; injection q with q; exact s.oK (by rw [hk, q])), TO.kept s.hL hs (fun k hk q => by rw [obk_eq] at hk; injection q with q; exact s.oL (by rw [hk, q])), RD.set_ s.rd (p := ⟨c, j, none⟩) (by show B ≤ c; omega) _, on_set s.on (.inr (by show w.heap.size ≤ c; omega)) _⟩
theorem FoC.set1 (s : FoC w u B g b c N AW cW W x y z h AK cK K AL cL L) {v : Int} : FoC w (u.setCell ⟨c, 1, none⟩ (.int .i64 v)) B g b c N AW cW W v y z h AK cK K AL cL L := by
  obtain ⟨h1, h2, h3, h4, h5⟩ := s.setC (j := 1) (v := .int .i64 v) rfl
  exact { s with fb := s.fb.set1, hW := h1, hK := h2, hL := h3, rd := h4, on := h5 }
/-- A width in its place. -/
theorem FoC.setW {q j : Nat} {v : Int} (s : FoC w u B g b c N (some ⟨q, 0, none⟩) cW W x y z h AK cK K AL cL L) : FoC w (u.setCell ⟨q, j, none⟩ (.int .i64 v)) B g b c N (some ⟨q, 0, none⟩) cW (W.set j v) x y z h AK cK K AL cL L := by
  have hs : u.grownBy (u.setCell ⟨q, j, none⟩ (.int .i64 v)) (some q) := Lib.grownBy_setCell u q j _
  have hq := (s.hW.own_lt q rfl).1
  have h4 := s.bc
  have h5 := s.bb
  have h6 := s.wb
  have h7 := s.gb
  refine { s with fb := by rw [List.length_set]; exact s.fb.of_block (hs.block c s.lt (fun e => by injection e with e; exact s.oW (by rw [e]; rfl))), hW := (s.hW.set_ j v).1, hK := TO.kept s.hK hs (fun k hk e => ?_), hL := TO.kept s.hL hs (fun k hk e => ?_), rd := RD.set_ s.rd (p := ⟨q, j, none⟩) (by show B ≤ q; omega) _, on := on_set s.on (.inr (by show w.heap.size ≤ q; omega)) _ }
  · rw [obk_eq] at hk
    exact s.nWK k (by injection e with e; rw [← e]; rfl) hk
  · rw [obk_eq] at hk
    exact s.nWL k (by injection e with e; rw [← e]; rfl) hk
/-- A kern more. -/
theorem FoC.app5 (s : FoC w u B g b c N AW cW W x y z h AK cK K AL cL L) {g' c' : Nat} {r : Gp} {u' : World} (hol : TO u' 35 (b + 1) (some ⟨g', 0, none⟩) c' (K ++ [r])) (hb : Below (b + 1) u u') (hg : u.grownBy u' (obk AK)) (hat : obk AK = some g' ∨ g' = u.heap.size) : FoC w (u'.setCell ⟨c, 5, none⟩ (.slice (some ⟨g', 0, none⟩) (K.length + 1) c')) B g b c N AW cW W x y z h (some ⟨g', 0, none⟩) c' (K ++ [r]) AL cL L := by
  have hl := s.lt
  have hw := s.wb
  have hbc := s.bc
  have hbb := s.bb
  have e : (K ++ [r]).length = K.length + 1 := by simp
  have hgc : g' ≠ c := by
    rintro rfl
    rcases hat with h1 | h1
    · exact s.oK h1
    · omega
  have rd' : RD u' B g N := s.rd.keep (fun q hq => hb.cell (Nat.lt_of_lt_of_le hq (by omega))) (fun q hq => hb.frozen (Nat.lt_of_lt_of_le hq (by omega))) hb.size
  have hW' : OL u' 3 (b + 1) AW cW W := s.hW.kept hg (fun k hk q => s.nWK k (by rw [← obk_eq AW]; exact hk) q)
  have hL' : TO u' 35 (b + 1) AL cL L := TO.kept s.hL hg (fun k hk q => s.nKL k q (by rw [← obk_eq AL]; exact hk))
  have fb' := s.fb.of_block (hg.block c hl (fun q => s.oK q.symm))
  have ncK : ∀ k, (Value.slice (some ⟨g', 0, none⟩) (K ++ [r]).length c').ownBlock = some k → some c ≠ some k := fun k hk q => by
    injection q with q
    have hk : g' = k := by injection hk
    omega
  have hs : u'.grownBy (u'.setCell ⟨c, 5, none⟩ (.slice (some ⟨g', 0, none⟩) (K.length + 1) c')) (some c) := Lib.grownBy_setCell u' c 5 _
  have nWK' : ∀ k, obk AW = some k → obk (some ⟨g', 0, none⟩) ≠ some k := fun k hk q => by
    have q : g' = k := by injection q
    rcases hat with h1 | h1
    · exact s.nWK k hk (by rw [h1, q])
    · have := (s.hW.own_lt k (by rw [obk_eq]; exact hk)).2
      omega
  have nKL' : ∀ k, obk (some ⟨g', 0, none⟩) = some k → obk AL ≠ some k := fun k hk q => by
    have hk : g' = k := by injection hk
    rcases hat with h1 | h1
    · exact s.nKL k (by rw [h1, hk]) q
    · have := (TO.own_lt s.hL k (by rw [obk_eq]; exact q)).2
      omega
  exact { fb := by rw [e]; exact fb'.set5, hW := hW'.kept hs (fun k hk q => by rw [obk_eq] at hk; injection q with q; exact s.oW (by rw [hk, q])), hK := TO.kept hol hs ncK, hL := TO.kept hL' hs (fun k hk q => by rw [obk_eq] at hk; injection q with q; exact s.oL (by rw [hk, q])), nWK := nWK', nWL := s.nWL, nKL := nKL', oW := s.oW, oK := fun q => hgc (by injection q), oL := s.oL, bc := hbc, rd := RD.set_ rd' (p := ⟨c, 5, none⟩) (by show B ≤ c; omega) _, gb := s.gb, bb := hbb, wb := hw, on := on_set ⟨hb.os.trans s.on.os, hb.tape.trans s.on.tape, hb.output.trans s.on.output, Nat.le_trans s.on.size hb.size, fun i hi hne => (hb.block i (by omega)).trans (s.on.block i hi hne)⟩ (.inr (by show w.heap.size ≤ c; omega)) _ }
/-- A ligature more. -/
theorem FoC.app6 (s : FoC w u B g b c N AW cW W x y z h AK cK K AL cL L) {g' c' : Nat} {r : Gp} {u' : World} (hol : TO u' 35 (b + 1) (some ⟨g', 0, none⟩) c' (L ++ [r])) (hb : Below (b + 1) u u') (hg : u.grownBy u' (obk AL)) (hat : obk AL = some g' ∨ g' = u.heap.size) : FoC w (u'.setCell ⟨c, 6, none⟩ (.slice (some ⟨g', 0, none⟩) (L.length + 1) c')) B g b c N AW cW W x y z h AK cK K (some ⟨g', 0, none⟩) c' (L ++ [r]) := by
  have hl := s.lt
  have hw := s.wb
  have hbc := s.bc
  have hbb := s.bb
  have e : (L ++ [r]).length = L.length + 1 := by simp
  have hgc : g' ≠ c := by
    rintro rfl
    rcases hat with h1 | h1
    · exact s.oL h1
    · omega
  have rd' : RD u' B g N := s.rd.keep (fun q hq => hb.cell (Nat.lt_of_lt_of_le hq (by omega))) (fun q hq => hb.frozen (Nat.lt_of_lt_of_le hq (by omega))) hb.size
  have hW' : OL u' 3 (b + 1) AW cW W := s.hW.kept hg (fun k hk q => s.nWL k (by rw [← obk_eq AW]; exact hk) q)
  have hK' : TO u' 35 (b + 1) AK cK K := TO.kept s.hK hg (fun k hk q => s.nKL k (by rw [← obk_eq AK]; exact hk) q)
  have fb' := s.fb.of_block (hg.block c hl (fun q => s.oL q.symm))
  have ncL : ∀ k, (Value.slice (some ⟨g', 0, none⟩) (L ++ [r]).length c').ownBlock = some k → some c ≠ some k := fun k hk q => by
    injection q with q
    have hk : g' = k := by injection hk
    omega
  have hs : u'.grownBy (u'.setCell ⟨c, 6, none⟩ (.slice (some ⟨g', 0, none⟩) (L.length + 1) c')) (some c) := Lib.grownBy_setCell u' c 6 _
  have nWL' : ∀ k, obk AW = some k → obk (some ⟨g', 0, none⟩) ≠ some k := fun k hk q => by
    have q : g' = k := by injection q
    rcases hat with h1 | h1
    · exact s.nWL k hk (by rw [h1, q])
    · have := (s.hW.own_lt k (by rw [obk_eq]; exact hk)).2
      omega
  have nKL' : ∀ k, obk AK = some k → obk (some ⟨g', 0, none⟩) ≠ some k := fun k hk q => by
    have q : g' = k := by injection q
    rcases hat with h1 | h1
    · exact s.nKL k hk (by rw [h1, q])
    · have := (TO.own_lt s.hK k (by rw [obk_eq]; exact hk)).2
      omega
  exact { fb := by rw [e]; exact fb'.set6, hW := hW'.kept hs (fun k hk q => by rw [obk_eq] at hk; injection q with q; exact s.oW (by rw [hk, q])), hL := TO.kept hol hs ncL, hK := TO.kept hK' hs (fun k hk q => by rw [obk_eq] at hk; injection q with q; exact s.oK (by rw [hk, q])), nWK := s.nWK, nWL := nWL', nKL := nKL', oW := s.oW, oL := fun q => hgc (by injection q), oK := s.oK, bc := hbc, rd := RD.set_ rd' (p := ⟨c, 6, none⟩) (by show B ≤ c; omega) _, gb := s.gb, bb := hbb, wb := hw, on := on_set ⟨hb.os.trans s.on.os, hb.tape.trans s.on.tape, hb.output.trans s.on.output, Nat.le_trans s.on.size hb.size, fun i hi hne => (hb.block i (by omega)).trans (s.on.block i hi hne)⟩ (.inr (by show w.heap.size ≤ c; omega)) _ }
theorem FoC.reads (s : FoC w u B g b c N AW cW W x y z h AK cK K AL cL L) : FRg u g (fv AW W.length cW x y z h AK K.length cK AL L.length cL) ⟨W, x, y, z, h, K, L⟩ := fun u' hk hz =>
  ⟨AW, cW, AK, cK, AL, cL, rfl, s.hW.readG s.gb hk hz, TO.readG s.hK s.gb hk hz, TO.readG s.hL s.gb hk hz⟩
theorem FoC.start {w0 : World} (s : FoC w u B g b c N AW cW W x y z h AK cK K AL cL L) (h0 : w0.grownBy w (some g)) : FoC w0 u B g b c N AW cW W x y z h AK cK K AL cL L :=
  { s with wb := Nat.le_trans h0.size s.wb, on := on_call s.on h0 }
theorem FoC.fin (s : FoC w u B g b c N AW cW W x y z h AK cK K AL cL L) (h1 : W.length ≤ 36) (h2 : K.length ≤ 4) (h3 : L.length ≤ 5) : ∃ (AW' : Option Addr) (cW' : Nat) (AK' : Option Addr) (cK' : Nat) (AL' : Option Addr) (cL' : Nat) (f : Ft), Ending.returned (fv AW W.length cW x y z h AK K.length cK AL L.length cL) = .returned (fv AW' f.W.length cW' f.a f.b f.c f.h AK' f.K.length cK' AL' f.L.length cL') ∧ FRg u g (fv AW' f.W.length cW' f.a f.b f.c f.h AK' f.K.length cK' AL' f.L.length cL') f ∧ f.W.length ≤ 36 ∧ f.K.length ≤ 4 ∧ f.L.length ≤ 5 ∧ RD u B g N ∧ w.grownBy u (some g) :=
  ⟨AW, cW, AK, cK, AL, cL, ⟨W, x, y, z, h, K, L⟩, rfl, s.reads, h1, h2, h3, s.rd, s.on⟩
/-- The rows alone. -/
structure FoD (w u : World) (B g b c N : Nat) (AW : Option Addr) (cW : Nat) (W : List Int) (AK : Option Addr) (cK : Nat) (K : List Gp) (AL : Option Addr) (cL : Nat) (L : List Gp) : Prop where
  hW : OL u 3 (b + 1) AW cW W
  hK : TO u 35 (b + 1) AK cK K
  hL : TO u 35 (b + 1) AL cL L
  oW : obk AW ≠ some c
  oK : obk AK ≠ some c
  oL : obk AL ≠ some c
  bc : b < c
  rd : RD u B g N
  gb : g < b
  bb : B ≤ b
  wb : w.heap.size ≤ b
  on : w.grownBy u (some g)
theorem FoC.d (s : FoC w u B g b c N AW cW W x y z h AK cK K AL cL L) : FoD w u B g b c N AW cW W AK cK K AL cL L :=
  ⟨s.hW, s.hK, s.hL, s.oW, s.oK, s.oL, s.bc, s.rd, s.gb, s.bb, s.wb, s.on⟩
theorem FoD.setR (s : FoD w u B g b c N AW cW W AK cK K AL cL L) {r j : Nat} {v : Value} (h1 : w.heap.size ≤ r) (h2 : r < b) (h3 : B ≤ r) : FoD w (u.setCell ⟨r, j, none⟩ v) B g b c N AW cW W AK cK K AL cL L := by
  have hs : u.grownBy (u.setCell ⟨r, j, none⟩ v) (some r) := Lib.grownBy_setCell u r j _
  exact { s with hW := s.hW.kept hs (fun k hk q => by have := (s.hW.own_lt k hk).1; injection q with q; omega), hK := TO.kept s.hK hs (fun k hk q => by have := (TO.own_lt s.hK k hk).1; injection q with q; omega), hL := TO.kept s.hL hs (fun k hk q => by have := (TO.own_lt s.hL k hk).1; injection q with q; omega), rd := RD.set_ s.rd (p := ⟨r, j, none⟩) h3 _, on := on_set s.on (.inr h1) _ }
theorem FoD.setC (s : FoD w u B g b c N AW cW W AK cK K AL cL L) {j : Nat} {v : Value} : FoD w (u.setCell ⟨c, j, none⟩ v) B g b c N AW cW W AK cK K AL cL L := by
  have hs : u.grownBy (u.setCell ⟨c, j, none⟩ v) (some c) := Lib.grownBy_setCell u c j _
  have h4 := s.bc
  have h5 := s.bb
  have h6 := s.wb
  exact { s with hW := s.hW.kept hs (fun k hk q => by rw [obk_eq] at hk; injection q with q; exact s.oW (by rw [hk, q])), hK := TO.kept s.hK hs (fun k hk q => by rw [obk_eq] at hk; injection q with q; exact s.oK (by rw [hk, q])), hL := TO.kept s.hL hs (fun k hk q => by rw [obk_eq] at hk; injection q with q; exact s.oL (by rw [hk, q])), rd := RD.set_ s.rd (p := ⟨c, j, none⟩) (by show B ≤ c; omega) _, on := on_set s.on (.inr (by show w.heap.size ≤ c; omega)) _ }
theorem il_tail {q : Nat} {l : List Int} (h : IL u (some ⟨q, 0, none⟩) l.length l) : IL u (some ⟨q, 1, none⟩) (l.length - 1) (l.drop 1) := by
  refine ⟨by simp, fun h0 => ?_⟩
  obtain ⟨b', o', e, hb, hc⟩ := h.2 (by omega)
  injection e with e
  cases e
  refine ⟨q, 1, rfl, hb, fun i hi => ?_⟩
  have e1 : ng (l.drop 1) i = ng l (1 + i) := by simp [ng, List.getD, List.getElem?_drop, Nat.add_comm]
  rw [e1, ← hc (1 + i) (by omega), Nat.zero_add]
theorem FoD.fin1 {q d : Nat} (s : FoD w u B g b c N (some ⟨q, 0, none⟩) cW W AK cK K AL cL L) (h1 : W.length ≤ 36) (h2 : K.length ≤ 4) (h3 : L.length ≤ 5) : ∃ (AW' : Option Addr) (cW' : Nat) (AK' : Option Addr) (cK' : Nat) (AL' : Option Addr) (cL' : Nat) (f : Ft), Ending.returned (fv (some ⟨q, 1, none⟩) (W.length - 1) d x y z h AK K.length cK AL L.length cL) = .returned (fv AW' f.W.length cW' f.a f.b f.c f.h AK' f.K.length cK' AL' f.L.length cL') ∧ FRg u g (fv AW' f.W.length cW' f.a f.b f.c f.h AK' f.K.length cK' AL' f.L.length cL') f ∧ f.W.length ≤ 36 ∧ f.K.length ≤ 4 ∧ f.L.length ≤ 5 ∧ RD u B g N ∧ w.grownBy u (some g) := by
  have e : (W.drop 1).length = W.length - 1 := by simp
  refine ⟨some ⟨q, 1, none⟩, d, AK, cK, AL, cL, ⟨W.drop 1, x, y, z, h, K, L⟩, by simp only [e], fun u' hk hz => ?_, by simp only [e]; omega, h2, h3, s.rd, s.on⟩
  refine ⟨some ⟨q, 1, none⟩, d, AK, cK, AL, cL, rfl, ?_, TO.readG s.hK s.gb hk hz, TO.readG s.hL s.gb hk hz⟩
  show IL u' (some ⟨q, 1, none⟩) (W.drop 1).length (W.drop 1)
  rw [e]
  exact il_tail (s.hW.readG s.gb hk hz)
theorem FoC.of {c : Nat} {w0 : World} (h0 : w0.grownBy w (some g)) (s : FoS w u B g b N AW cW W x y z h AK cK K AL cL L) (hc : c = u.heap.size) (o : Obj) (hf : FB (u.alloc o) c (.slice AW W.length cW) (.int .i64 x) (.int .i64 y) (.int .i64 z) (.int .i64 h) (.slice AK K.length cK) (.slice AL L.length cL)) : FoC w0 (u.alloc o) B g b c N AW cW W x y z h AK cK K AL cL L := by
  have hl := s.lt
  have hz := h0.size
  have hwb := s.wb
  have s' := s.alloc o
  exact { fb := hf, hW := s'.hW, hK := s'.hK, hL := s'.hL, nWK := s'.nWK, nWL := s'.nWL, nKL := s'.nKL, oW := fun q => (by have := (s.hW.own_lt c (by rw [obk_eq]; exact q)).2; omega), oK := fun q => (by have := (TO.own_lt s.hK c (by rw [obk_eq]; exact q)).2; omega), oL := fun q => (by have := (TO.own_lt s.hL c (by rw [obk_eq]; exact q)).2; omega), bc := by omega, rd := s'.rd, gb := s'.gb, bb := s'.bb, wb := by omega, on := on_call s'.on h0 }
end
set_option maxHeartbeats 8000000 in
theorem anyFont_any (w : World) (B g N : Nat) (h : RD w B g N) (hN : N ≤ 100000) (hB : B ≤ w.heap.size) :
    Calls Try.prog 19 #[.pointer (some ⟨g, 0, none⟩)] w fun e w' => ∃ (AW : Option Addr) (cW : Nat) (AK : Option Addr) (cK : Nat) (AL : Option Addr) (cL : Nat) (f : Ft), e = .returned (fv AW f.W.length cW f.a f.b f.c f.h AK f.K.length cK AL f.L.length cL) ∧ FRg w' g (fv AW f.W.length cW f.a f.b f.c f.h AK f.K.length cK AL f.L.length cL) f ∧ f.W.length ≤ 36 ∧ f.K.length ≤ 4 ∧ f.L.length ≤ 5 ∧ RD w' B g (N + 84) ∧ w.grownBy w' (some g) := by
  obtain ⟨i0, hi0, jz0, jz1, jz2⟩ := info_parts int_info
  obtain ⟨i1, hi1, kz0, kz1, kz2⟩ := info_parts gp_infoF
  have hg := h.lt
  go_enter Try.func19, Try.ntmps19
  go_wp2_with fail
  (with_reducible refine (randomFont_any _ B g N (RD.alloc h _) (by omega) (by simp; omega)).mono ?_)
  rintro e u1 ⟨b, AW, cW, W, x, y, z, hh, AK, cK, K, AL, cL, L, rfl, hs, hW36, hK3, hL4⟩
  obtain ⟨w1, hw1, rc, hzw, hgw⟩ := ret_cell hs.on
  rw [← hw1] at hs
  obtain ⟨q, rfl, -, -, hcW, -⟩ := hs.hW.form (by omega)
  have RC := hide rc
  have HS0 := hide hs
  have HW36 := hide hW36
  have hb1 := hs.lt
  have hwb := hs.wb
  have hgb := hs.gb
  clear hs rc hw1 h hW36
  go_wp2_with fail
  (with_reducible refine (pick_any _ B g (N + 80) 18 (HS0.out.rd.alloc _) (by omega) (by omega) (by omega)).mono ?_)
  rintro e u2 ⟨r, hr0, hr1, rfl, hrd1, hon1⟩
  have HS := hide ((FoC.of (on_refl w1 (some g)) HS0.out rfl _ ⟨by simp [go_sem], by simp [go_sem], by simp [go_sem], by simp [go_sem], by simp [go_sem], by simp [go_sem], by simp [go_sem], fun j => by simp [go_sem]⟩).pick hon1 hrd1)
  clear hon1 hrd1
  obtain ⟨c, hc⟩ : ∃ c, c = u1.heap.size := ⟨_, rfl⟩
  rw [← hc] at HS hb1 ⊢
  clear hc HS0
  rcases (by omega : r = 0 ∨ r = 1 ∨ r = 2 ∨ r = 3 ∨ r = 4 ∨ 5 ≤ r) with rfl | rfl | rfl | rfl | rfl | hr
  · have c0 := HS.out.fb.c0
    have hlb := HS.out.lt
    go_wp2
    go_region_law (first | (go_simp; go_at_call 27; (with_reducible refine (pick_any _ _ _ _ 36 (by first | exact HS.out.rd | exact RD.drew HS.out.rd | exact HS.out.rd.alloc _ | exact RD.drew (HS.out.rd.alloc _)) (by omega) (by omega) (by omega)).mono ?_); rintro e wp ⟨r, hr0, hr1, rfl, hrd1, hon1⟩; (try (with_reducible have hon1 := on_undrew hon1)); (first | (replace HS := hide (HS.out.pick hon1 hrd1)) | (have hglo := HS.out.rd.lt; have BK := (hon1.block _ (by simp) (fun q => by injection q with q; have := HS.out.rd.lt; omega)).trans (heap_alloc_new _ _); replace HS := hide ((HS.out.alloc _).pick hon1 hrd1))); obtain ⟨ri, rfl⟩ := Int.eq_ofNat_of_zero_le hr0; have hr2 : ri < W.length := (by have := HW36.out; omega); have hr3 : (ri : Int) < (W.length : Int) := (by omega); have c0 := HS.out.fb.c0; have hlb := HS.out.lt; (obtain ⟨_, _, he, _, hcr⟩ := HS.out.hW.reads.at_ hr2); injection he with he; cases he; rw [Nat.zero_add] at hcr; have hfr := World.ownsRow.frozenAt HS.out.hW ri; clear hon1 hrd1) | (go_simp; go_at_call 26; have hgl := HS.out.rd.lt; (first | refine (one_any _ B g _ _ _ (fun _ => True) (by first | exact HS.out.rd | exact RD.drew HS.out.rd) (by omega) (by exact BK) (by have := hglo; omega) (by rfl) (by decide) (by simp)).mono ?_ | refine (one_any _ B g _ _ _ (fun _ => True) (by first | exact HS.out.rd.alloc _ | exact RD.drew (HS.out.rd.alloc _)) (by omega) (by exact heap_alloc_new _ _) (by omega) (by rfl) (by decide) (by simp)).mono ?_); rintro e wp ⟨zo, -, rfl, hrd1, hon1⟩; (try (with_reducible have hon1 := on_undrew hon1)); (first | (replace HS := hide (HS.out.pick hon1 hrd1)) | (replace HS := hide ((HS.out.alloc _).pick hon1 hrd1))); (have c0 := HS.out.fb.c0; have c1 := HS.out.fb.c1; have c2 := HS.out.fb.c2; have c3 := HS.out.fb.c3; have c4 := HS.out.fb.c4; have c5 := HS.out.fb.c5; have c6 := HS.out.fb.c6; have hlb := HS.out.lt); (try ((obtain ⟨_, _, he, _, hcr⟩ := HS.out.hW.reads.at_ hr2); injection he with he; cases he; rw [Nat.zero_add] at hcr; have hfr := World.ownsRow.frozenAt HS.out.hW ri)); clear hon1 hrd1))
    all_goals
      have HA := hide ((HS.out.setW (j := ri) (v := zo)).more (M := N + 84) (by omega))
      (have c0 := HA.out.fb.c0; have c1 := HA.out.fb.c1; have c2 := HA.out.fb.c2; have c3 := HA.out.fb.c3; have c4 := HA.out.fb.c4; have c5 := HA.out.fb.c5; have c6 := HA.out.fb.c6; have hlb := HA.out.lt)
      (have rcf := RC.out.of_block (HA.out.on.block w.heap.size (by omega) (fun q => by injection q with q; omega)); have d0 := rcf.c0; have d1 := rcf.c1; have d2 := rcf.c2; have d3 := rcf.c3; have d4 := rcf.c4; have d5 := rcf.c5; have d6 := rcf.c6; have y0 := rcf.fz 0; have y1 := rcf.fz 1; have y2 := rcf.fz 2; have y3 := rcf.fz 3; have y4 := rcf.fz 4; have y5 := rcf.fz 5; have y6 := rcf.fz 6; clear rcf)
      simp only [List.length_set] at c0
      have SX := hide (HA.out.start hgw)
      clear HA HS
      go_wp2
      refine bodyPost_ret (v := fv (some ⟨q, 0, none⟩) (W.set ri zo).length cW x y z hh AK K.length cK AL L.length cL) ?_ rfl ?_
      · simp [results, Try.results19, go_sem, *]
      exact FoC.fin (b := b) (c := c) (by repeat' (first | with_reducible exact SX.out | refine FoC.setR ?_ (Nat.le_refl _) (by omega) hB)) (by rw [List.length_set, HW36.out]; omega) (by omega) (by omega)
  · (have c0 := HS.out.fb.c0; have c1 := HS.out.fb.c1; have c2 := HS.out.fb.c2; have c3 := HS.out.fb.c3; have c4 := HS.out.fb.c4; have c5 := HS.out.fb.c5; have c6 := HS.out.fb.c6; have hlb := HS.out.lt)
    (have rcf := RC.out.of_block (HS.out.on.block w.heap.size (by omega) (fun q => by injection q with q; omega)); have d0 := rcf.c0; have d1 := rcf.c1; have d2 := rcf.c2; have d3 := rcf.c3; have d4 := rcf.c4; have d5 := rcf.c5; have d6 := rcf.c6; have y0 := rcf.fz 0; have y1 := rcf.fz 1; have y2 := rcf.fz 2; have y3 := rcf.fz 3; have y4 := rcf.fz 4; have y5 := rcf.fz 5; have y6 := rcf.fz 6; clear rcf)
    have z0 := HS.out.fb.fz 0
    have h1W : 1 ≤ W.length := by have := HW36.out; omega
    have h2W : ¬ cW = 1 := by have := HW36.out; omega
    have SX := hide ((HS.out.more (M := N + 84) (by omega)).start hgw).d
    clear HS
    go_wp2
    refine bodyPost_ret (v := fv (some ⟨q, 1, none⟩) (W.length - 1) (cW - 1) x y z hh AK K.length cK AL L.length cL) ?_ rfl ?_
    · simp [results, Try.results19, go_sem, *]
    exact FoD.fin1 (b := b) (c := c) (cW := cW) (by repeat' (first | with_reducible exact SX.out | refine FoD.setR ?_ (Nat.le_refl _) (by omega) hB | refine FoD.setC ?_)) (by rw [HW36.out]; omega) (by omega) (by omega)
  · (have c0 := HS.out.fb.c0; have c1 := HS.out.fb.c1; have c2 := HS.out.fb.c2; have c3 := HS.out.fb.c3; have c4 := HS.out.fb.c4; have c5 := HS.out.fb.c5; have c6 := HS.out.fb.c6; have hlb := HS.out.lt)
    go_wp2
    go_region_law (first | (go_simp; go_at_call 26; have hgl := HS.out.rd.lt; (first | refine (one_any _ B g _ _ _ (fun _ => True) (by first | exact HS.out.rd | exact RD.drew HS.out.rd) (by omega) (by exact BK) (by have := hglo; omega) (by rfl) (by decide) (by simp)).mono ?_ | refine (one_any _ B g _ _ _ (fun _ => True) (by first | exact HS.out.rd.alloc _ | exact RD.drew (HS.out.rd.alloc _)) (by omega) (by exact heap_alloc_new _ _) (by omega) (by rfl) (by decide) (by simp)).mono ?_); rintro e wp ⟨zo, -, rfl, hrd1, hon1⟩; (try (with_reducible have hon1 := on_undrew hon1)); (first | (replace HS := hide (HS.out.pick hon1 hrd1)) | (replace HS := hide ((HS.out.alloc _).pick hon1 hrd1))); (have c0 := HS.out.fb.c0; have c1 := HS.out.fb.c1; have c2 := HS.out.fb.c2; have c3 := HS.out.fb.c3; have c4 := HS.out.fb.c4; have c5 := HS.out.fb.c5; have c6 := HS.out.fb.c6; have hlb := HS.out.lt); (try ((obtain ⟨_, _, he, _, hcr⟩ := HS.out.hW.reads.at_ hr2); injection he with he; cases he; rw [Nat.zero_add] at hcr; have hfr := World.ownsRow.frozenAt HS.out.hW ri)); clear hon1 hrd1) | (refine step_append_rec (α := Gp) (r := ⟨zo, 0, 1⟩) rfl (.tmp 27) (.tmp 32) _ rfl 35 i1 _ 24 Try.underlying26 hi1 kz0 kz1 kz2 rfl (by decide) (b + 1) AK cK K.length K rfl rfl (TO.below HS.out.hK (bl_alloc (bl_refl _) _)) wp.heap.size rfl (ones3 _) (cells3_at rfl) (by omega) (by simp; omega) _ rfl ?_; intro g' c' wa hol' hb' hg' hat' hlt'; rw [obk_eq] at hg' hat'; have e0 := hg'.block c (HS.out.alloc _).lt (fun q => HS.out.oK q.symm); have c5 := (World.cell?_of_block (a := ⟨c, 5, none⟩) e0).trans (HS.out.alloc _).fb.c5; have zz := (World.frozen?_of_block (a := ⟨c, 5, none⟩) e0).trans ((HS.out.alloc _).fb.fz 5); have HA := hide ((HS.out.alloc _).app5 hol' hb' hg' hat')))
    all_goals
      (have c0 := HA.out.fb.c0; have c1 := HA.out.fb.c1; have c2 := HA.out.fb.c2; have c3 := HA.out.fb.c3; have c4 := HA.out.fb.c4; have c5 := HA.out.fb.c5; have c6 := HA.out.fb.c6; have hlb := HA.out.lt)
      (have rcf := RC.out.of_block (HA.out.on.block w.heap.size (by omega) (fun q => by injection q with q; omega)); have d0 := rcf.c0; have d1 := rcf.c1; have d2 := rcf.c2; have d3 := rcf.c3; have d4 := rcf.c4; have d5 := rcf.c5; have d6 := rcf.c6; have y0 := rcf.fz 0; have y1 := rcf.fz 1; have y2 := rcf.fz 2; have y3 := rcf.fz 3; have y4 := rcf.fz 4; have y5 := rcf.fz 5; have y6 := rcf.fz 6; clear rcf)
      simp only [List.length_append, List.length_cons, List.length_nil, Nat.zero_add] at c5
      have SX := hide ((HA.out.more (M := N + 84) (by omega)).start hgw)
      clear HA HS
      go_wp2
      refine bodyPost_ret (v := fv (some ⟨q, 0, none⟩) W.length cW x y z hh (some ⟨g', 0, none⟩) (K ++ [(⟨zo, 0, 1⟩ : Gp)]).length c' AL L.length cL) ?_ rfl ?_
      · simp [results, Try.results19, go_sem, *]
      exact FoC.fin (b := b) (c := c) (by repeat' (first | with_reducible exact SX.out | refine FoC.setR ?_ (Nat.le_refl _) (by omega) hB)) (by rw [HW36.out]; omega) (by first | omega | (simp; omega)) (by first | omega | (simp; omega))
  · (have c0 := HS.out.fb.c0; have c1 := HS.out.fb.c1; have c2 := HS.out.fb.c2; have c3 := HS.out.fb.c3; have c4 := HS.out.fb.c4; have c5 := HS.out.fb.c5; have c6 := HS.out.fb.c6; have hlb := HS.out.lt)
    go_wp2
    go_region_law (first | (go_simp; go_at_call 26; have hgl := HS.out.rd.lt; (first | refine (one_any _ B g _ _ _ (fun _ => True) (by first | exact HS.out.rd | exact RD.drew HS.out.rd) (by omega) (by exact BK) (by have := hglo; omega) (by rfl) (by decide) (by simp)).mono ?_ | refine (one_any _ B g _ _ _ (fun _ => True) (by first | exact HS.out.rd.alloc _ | exact RD.drew (HS.out.rd.alloc _)) (by omega) (by exact heap_alloc_new _ _) (by omega) (by rfl) (by decide) (by simp)).mono ?_); rintro e wp ⟨zo, -, rfl, hrd1, hon1⟩; (try (with_reducible have hon1 := on_undrew hon1)); (first | (replace HS := hide (HS.out.pick hon1 hrd1)) | (replace HS := hide ((HS.out.alloc _).pick hon1 hrd1))); (have c0 := HS.out.fb.c0; have c1 := HS.out.fb.c1; have c2 := HS.out.fb.c2; have c3 := HS.out.fb.c3; have c4 := HS.out.fb.c4; have c5 := HS.out.fb.c5; have c6 := HS.out.fb.c6; have hlb := HS.out.lt); (try ((obtain ⟨_, _, he, _, hcr⟩ := HS.out.hW.reads.at_ hr2); injection he with he; cases he; rw [Nat.zero_add] at hcr; have hfr := World.ownsRow.frozenAt HS.out.hW ri)); clear hon1 hrd1) | (refine step_append_rec (α := Gp) (r := ⟨35, 1, zo⟩) rfl (.tmp 38) (.tmp 43) _ rfl 35 i1 _ 24 Try.underlying26 hi1 kz0 kz1 kz2 rfl (by decide) (b + 1) AL cL L.length L rfl rfl (TO.below HS.out.hL (bl_alloc (bl_refl _) _)) wp.heap.size rfl (ones3 _) (cells3_at rfl) (by omega) (by simp; omega) _ rfl ?_; intro g' c' wa hol' hb' hg' hat' hlt'; rw [obk_eq] at hg' hat'; have e0 := hg'.block c (HS.out.alloc _).lt (fun q => HS.out.oL q.symm); have c6 := (World.cell?_of_block (a := ⟨c, 6, none⟩) e0).trans (HS.out.alloc _).fb.c6; have zz := (World.frozen?_of_block (a := ⟨c, 6, none⟩) e0).trans ((HS.out.alloc _).fb.fz 6); have HA := hide ((HS.out.alloc _).app6 hol' hb' hg' hat')))
    all_goals
      (have c0 := HA.out.fb.c0; have c1 := HA.out.fb.c1; have c2 := HA.out.fb.c2; have c3 := HA.out.fb.c3; have c4 := HA.out.fb.c4; have c5 := HA.out.fb.c5; have c6 := HA.out.fb.c6; have hlb := HA.out.lt)
      (have rcf := RC.out.of_block (HA.out.on.block w.heap.size (by omega) (fun q => by injection q with q; omega)); have d0 := rcf.c0; have d1 := rcf.c1; have d2 := rcf.c2; have d3 := rcf.c3; have d4 := rcf.c4; have d5 := rcf.c5; have d6 := rcf.c6; have y0 := rcf.fz 0; have y1 := rcf.fz 1; have y2 := rcf.fz 2; have y3 := rcf.fz 3; have y4 := rcf.fz 4; have y5 := rcf.fz 5; have y6 := rcf.fz 6; clear rcf)
      simp only [List.length_append, List.length_cons, List.length_nil, Nat.zero_add] at c6
      have SX := hide ((HA.out.more (M := N + 84) (by omega)).start hgw)
      clear HA HS
      go_wp2
      refine bodyPost_ret (v := fv (some ⟨q, 0, none⟩) W.length cW x y z hh AK K.length cK (some ⟨g', 0, none⟩) (L ++ [(⟨35, 1, zo⟩ : Gp)]).length c') ?_ rfl ?_
      · simp [results, Try.results19, go_sem, *]
      exact FoC.fin (b := b) (c := c) (by repeat' (first | with_reducible exact SX.out | refine FoC.setR ?_ (Nat.le_refl _) (by omega) hB)) (by rw [HW36.out]; omega) (by first | omega | (simp; omega)) (by first | omega | (simp; omega))
  · (have c0 := HS.out.fb.c0; have c1 := HS.out.fb.c1; have c2 := HS.out.fb.c2; have c3 := HS.out.fb.c3; have c4 := HS.out.fb.c4; have c5 := HS.out.fb.c5; have c6 := HS.out.fb.c6; have hlb := HS.out.lt)
    (have rcf := RC.out.of_block (HS.out.on.block w.heap.size (by omega) (fun q => by injection q with q; omega)); have d0 := rcf.c0; have d1 := rcf.c1; have d2 := rcf.c2; have d3 := rcf.c3; have d4 := rcf.c4; have d5 := rcf.c5; have d6 := rcf.c6; have y0 := rcf.fz 0; have y1 := rcf.fz 1; have y2 := rcf.fz 2; have y3 := rcf.fz 3; have y4 := rcf.fz 4; have y5 := rcf.fz 5; have y6 := rcf.fz 6; clear rcf)
    have z1 := HS.out.fb.fz 1
    have SX := hide ((HS.out.set1 (v := -1)).more (M := N + 84) (by omega) |>.start hgw)
    clear HS
    go_wp2
    refine bodyPost_ret (v := fv (some ⟨q, 0, none⟩) W.length cW (-1) y z hh AK K.length cK AL L.length cL) ?_ rfl ?_
    · simp [results, Try.results19, go_sem, *]
    exact FoC.fin (b := b) (c := c) (by repeat' (first | with_reducible exact SX.out | refine FoC.setR ?_ (Nat.le_refl _) (by omega) hB)) (by rw [HW36.out]; omega) (by omega) (by omega)
  · (have c0 := HS.out.fb.c0; have c1 := HS.out.fb.c1; have c2 := HS.out.fb.c2; have c3 := HS.out.fb.c3; have c4 := HS.out.fb.c4; have c5 := HS.out.fb.c5; have c6 := HS.out.fb.c6; have hlb := HS.out.lt)
    (have rcf := RC.out.of_block (HS.out.on.block w.heap.size (by omega) (fun q => by injection q with q; omega)); have d0 := rcf.c0; have d1 := rcf.c1; have d2 := rcf.c2; have d3 := rcf.c3; have d4 := rcf.c4; have d5 := rcf.c5; have d6 := rcf.c6; have y0 := rcf.fz 0; have y1 := rcf.fz 1; have y2 := rcf.fz 2; have y3 := rcf.fz 3; have y4 := rcf.fz 4; have y5 := rcf.fz 5; have y6 := rcf.fz 6; clear rcf)
    have SX := hide ((HS.out.more (M := N + 84) (by omega)).start hgw)
    clear HS
    go_wp2
    refine bodyPost_ret (v := fv (some ⟨q, 0, none⟩) W.length cW x y z hh AK K.length cK AL L.length cL) ?_ rfl ?_
    · simp [results, Try.results19, go_sem, *]
    exact FoC.fin (b := b) (c := c) (by repeat' (first | with_reducible exact SX.out | refine FoC.setR ?_ (Nat.le_refl _) (by omega) hB)) (by rw [HW36.out]; omega) (by omega) (by omega)
end Go.Proofs.Ytlfhfbeacleggab
