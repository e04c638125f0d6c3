/- The laws' helpers on fonts. -/
import Derived.Test.YtbbicijmekinkacGp
import Derived.Test.YtbbicijmekinkacSp
namespace Go.Proofs.Ytbbicijmekinkac
open Go.ChangeShapes Go.WideShapes Go.ChangeAt Go.RowKit
set_option linter.unusedVariables false

/-- A font. -/
structure Ft where
  W : List Int
  a : Int
  b : Int
  c : Int
  h : Int
  K : List Gp
  L : List Gp
abbrev fv (AW : Option Addr) (nW cW : Nat) (a b c h : Int) (AK : Option Addr) (nK cK : Nat) (AL : Option Addr) (nL cL : Nat) : Value := .agg #[.slice AW nW cW, .int .i64 a, .int .i64 b, .int .i64 c, .int .i64 h, .slice AK nK cK, .slice AL nL cL]
/-- A value that reads as a font. -/
def FR (u : World) (v : Value) (f : Ft) : Prop := ∃ AW cW AK cK AL cL, v = fv AW f.W.length cW f.a f.b f.c f.h AK f.K.length cK AL f.L.length cL ∧ IL u AW f.W.length f.W ∧ TL u AK f.K.length f.K ∧ TL u AL f.L.length f.L
/-- A font that the call made, in blocks from B on and below T. -/
def FO (u : World) (B T : Nat) (v : Value) (f : Ft) : Prop := ∃ AW cW AK cK AL cL, v = fv AW f.W.length cW f.a f.b f.c f.h AK f.K.length cK AL f.L.length cL ∧ OL u 3 B AW cW f.W ∧ TO u 88 B AK cK f.K ∧ TO u 88 B AL cL f.L ∧
  (∀ k, (Value.slice AW f.W.length cW).ownBlock = some k → k < T ∧ (Value.slice AK f.K.length cK).ownBlock ≠ some k ∧ (Value.slice AL f.L.length cL).ownBlock ≠ some k) ∧
  (∀ k, (Value.slice AK f.K.length cK).ownBlock = some k → k < T ∧ (Value.slice AL f.L.length cL).ownBlock ≠ some k) ∧ (∀ k, (Value.slice AL f.L.length cL).ownBlock = some k → k < T)
theorem FR.below {w u : World} {v : Value} {f : Ft} (h : FR w v f) (hb : Below w.heap.size w u) : FR u v f := by
  obtain ⟨AW, cW, AK, cK, AL, cL, e, h1, h2, h3⟩ := h
  exact ⟨AW, cW, AK, cK, AL, cL, e, h1.below hb, h2.below hb, h3.below hb⟩
theorem FR.drewN {w : World} {v : Value} {f : Ft} (h : FR w v f) (k : Nat) : FR (w.drewN k) v f := h
theorem FO.below {w u : World} {B T : Nat} {v : Value} {f : Ft} (h : FO w B T v f) (hb : Below w.heap.size w u) : FO u B T v f := by
  obtain ⟨AW, cW, AK, cK, AL, cL, e, h1, h2, h3, h4⟩ := h
  exact ⟨AW, cW, AK, cK, AL, cL, e, h1.below hb, h2.below hb, h3.below hb, h4⟩
theorem FO.drewN {w : World} {B T : Nat} {v : Value} {f : Ft} (h : FO w B T v f) (k : Nat) : FO (w.drewN k) B T v f := h
theorem FO.reads {w : World} {B T : Nat} {v : Value} {f : Ft} (h : FO w B T v f) : FR w v f := by
  obtain ⟨AW, cW, AK, cK, AL, cL, e, h1, h2, h3, h4⟩ := h
  exact ⟨AW, cW, AK, cK, AL, cL, e, h1.reads, h2.reads, h3.reads⟩

theorem szInt_l (w : World) (A : Option Addr) (n c : Nat) (z : Int) (hn : n ≤ 9223372036854775807) (z0 : 0 ≤ z) (z1 : z ≤ 1048576) :
    Calls Try.prog 47 #[.slice A n c, .int .i64 z] w fun e w' => e = .returned (.int .i64 (if z - n < 0 then -1 else z - n)) ∧ w = w' := by
  rcases (by omega : z - (n : Int) < 0 ∨ 0 ≤ z - (n : Int)) with h | h
  · rw [if_pos h]
    go_enter Try.func47, Try.ntmps47
    go_wp2
    go_ret
    exact ⟨rfl, rfl⟩
  · rw [if_neg (by omega)]
    go_enter Try.func47, Try.ntmps47
    go_wp2
    go_ret
    exact ⟨rfl, rfl⟩
theorem szPair_l (w : World) (A : Option Addr) (n c : Nat) (z : Int) (hn : n ≤ 9223372036854775807) (z0 : 0 ≤ z) (z1 : z ≤ 1048576) :
    Calls Try.prog 48 #[.slice A n c, .int .i64 z] w fun e w' => e = .returned (.int .i64 (if z - n < 0 then -1 else z - n)) ∧ w = w' := by
  rcases (by omega : z - (n : Int) < 0 ∨ 0 ≤ z - (n : Int)) with h | h
  · rw [if_pos h]
    go_enter Try.func48, Try.ntmps48
    go_wp2
    go_ret
    exact ⟨rfl, rfl⟩
  · rw [if_neg (by omega)]
    go_enter Try.func48, Try.ntmps48
    go_wp2
    go_ret
    exact ⟨rfl, rfl⟩

set_option maxHeartbeats 1000000 in
theorem szFont_l (w : World) (v : Value) (f : Ft) (h : FR w v f) (h1 : f.W.length ≤ 9223372036854775807) (h2 : f.K.length ≤ 9223372036854775807) (h3 : f.L.length ≤ 9223372036854775807) :
    Calls Try.prog 15 #[v, .int .i64 1048576] w fun e w' => ∃ z : Int, e = .returned (.int .i64 z) ∧ (z < 0 ∨ 0 ≤ z ∧ f.W.length + f.K.length + f.L.length ≤ 1048576) ∧ Below w.heap.size w w' := by
  obtain ⟨W, a, b, c, h, K, L⟩ := f
  obtain ⟨AW, cW, AK, cK, AL, cL, rfl, hW, hK, hL⟩ := h
  simp only at h1 h2 h3 hW hK hL ⊢
  clear hW hK hL
  obtain ⟨x, hx⟩ : ∃ x, x = W.length := ⟨_, rfl⟩
  obtain ⟨y, hy⟩ : ∃ y, y = K.length := ⟨_, rfl⟩
  obtain ⟨t, ht⟩ : ∃ t, t = L.length := ⟨_, rfl⟩
  rw [← hx] at h1 ⊢
  rw [← hy] at h2 ⊢
  rw [← ht] at h3 ⊢
  clear hx hy ht
  go_enter Try.func15, Try.ntmps15
  go_wp2_with fail
  refine (szInt_l _ _ _ _ _ h1 (by omega) (by omega)).mono ?_
  rcases (by omega : (1048576 : Int) - (x : Int) < 0 ∨ 0 ≤ (1048576 : Int) - (x : Int)) with q | q
  · rw [if_pos q]
    rintro e w' ⟨rfl, rfl⟩
    go_wp2
    go_ret
    exact ⟨_, rfl, .inl (by omega), bl_alloc (bl_refl _) _⟩
  · rw [if_neg (by omega)]
    rintro e w' ⟨rfl, rfl⟩
    obtain ⟨z, hz⟩ : ∃ z : Int, z = 1048576 - (x : Int) := ⟨_, rfl⟩
    have z0 : 0 ≤ z := by omega
    have z1 : z ≤ 1048576 := by omega
    have HZ := hide hz
    rw [← hz]
    clear hz q
    go_wp2_with fail
    refine (szPair_l _ _ _ _ _ h2 z0 z1).mono ?_
    rcases (by omega : z - (y : Int) < 0 ∨ 0 ≤ z - (y : Int)) with q | q
    · rw [if_pos q]
      rintro e w' ⟨rfl, rfl⟩
      go_wp2
      go_ret
      exact ⟨_, rfl, .inl (by omega), bl_alloc (bl_refl _) _⟩
    · rw [if_neg (by omega)]
      rintro e w' ⟨rfl, rfl⟩
      obtain ⟨s, hs⟩ : ∃ s : Int, s = z - (y : Int) := ⟨_, rfl⟩
      have s0 : 0 ≤ s := by omega
      have s1 : s ≤ 1048576 := by omega
      have HS := hide hs
      rw [← hs]
      clear hs q
      go_wp2_with fail
      refine (szPair_l _ _ _ _ _ h3 s0 s1).mono ?_
      rcases (by omega : s - (t : Int) < 0 ∨ 0 ≤ s - (t : Int)) with q | q
      · rw [if_pos q]
        rintro e w' ⟨rfl, rfl⟩
        go_wp2
        go_ret
        exact ⟨_, rfl, .inl (by omega), bl_alloc (bl_refl _) _⟩
      · rw [if_neg (by omega)]
        rintro e w' ⟨rfl, rfl⟩
        have e1 : ¬ (s - (t : Int) < 0) := by omega
        go_wp2
        go_ret
        refine ⟨_, rfl, .inr ⟨q, ?_⟩, bl_alloc (bl_refl _) _⟩
        have := HS.out
        have := HZ.out
        omega
end Go.Proofs.Ytbbicijmekinkac
