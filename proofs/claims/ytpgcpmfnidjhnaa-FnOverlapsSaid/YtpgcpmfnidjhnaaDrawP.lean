/- Drawn placed texts. -/
import Derived.Test.YtpgcpmfnidjhnaaDrawI
import Derived.Test.YtpgcpmfnidjhnaaDrawS
import Derived.Test.YtpgcpmfnidjhnaaPlOk
import Derived.Test.YtpgcpmfnidjhnaaRecA
namespace Go.Proofs.Ytpgcpmfnidjhnaa
open Go.ChangeShapes Go.WideShapes Go.ChangeAt Go.RowKit
set_option linter.unusedVariables false
set_option maxRecDepth 4000

theorem TO.readP {w w' : World} {B g c : Nat} {e : TypeId} {A : Option Addr} {L : List Pl} (h : TO w e B A c L) (hg : w.grownBy w' (some g)) (hlt : g < B) : TO w' e B A c L :=
  h.kept hg (fun k hk e => by
    have := (h.own_lt k hk).1
    injection e with e
    omega)
theorem cells3p (u : World) (a b : Int) (s : ByteArray) (t : TypeId) : ∀ j, j < Rec.size Pl → (u.alloc (.cells #[.int .i64 a, .int .i64 b, .string s] t)).cell? ⟨u.heap.size, j, none⟩ = (Rec.cells (⟨a, b, s⟩ : Pl))[j]? := by
  intro j hj
  have hj' : j < 3 := hj
  rcases (by omega : j = 0 ∨ j = 1 ∨ j = 2) with rfl | rfl | rfl <;> simp [go_sem, Rec.cells]
theorem ones3p (x : Pl) : ∀ u ∈ Rec.cells x, u.oneCell' = true := by
  intro u hu
  simp [Rec.cells] at hu
  rcases hu with rfl | rfl | rfl <;> rfl
/-- Short texts. -/
def PQ (L : List Pl) : Prop := ∀ x ∈ L, x.t.size ≤ 9
theorem PQ.nil : PQ [] := fun x hx => by cases hx
theorem PQ.snoc {L : List Pl} {x : Pl} (h : PQ L) (hx : x.t.size ≤ 9) : PQ (L ++ [x]) := fun y hy => by
  rcases List.mem_append.1 hy with hy | hy
  · exact h y hy
  · simp at hy; subst hy; exact hx
theorem PQ.sm {L : List Pl} (h : PQ L) : PSm L := fun k hk => by have := h _ (tg_mem hk); omega
theorem TO.setX {w : World} {B g c : Nat} {e : TypeId} {L : List Pl} (h : TO w e B (some ⟨g, 0, none⟩) c L) (h0 : 0 < L.length) (hL : PQ L) (z : Int) : ∃ L' : List Pl, L'.length = L.length ∧ PQ L' ∧ TO (w.setCell ⟨g, 0, none⟩ (.int .i64 z)) e B (some ⟨g, 0, none⟩) c L' := by
  cases L with
  | nil => simp at h0
  | cons r L =>
    refine ⟨⟨z, r.y, r.t⟩ :: L, rfl, fun x hx => ?_, ?_⟩
    · rcases List.mem_cons.1 hx with rfl | hx
      · exact hL r (List.mem_cons_self ..)
      · exact hL x (List.mem_cons_of_mem _ hx)
    · have := (World.ownsRow.stored h 0 (.int .i64 z)).1
      unfold TO
      simpa [Rec.cells] using this
theorem TO.setY {w : World} {B g c : Nat} {e : TypeId} {L : List Pl} (h : TO w e B (some ⟨g, 0, none⟩) c L) (h0 : 0 < L.length) (hL : PQ L) (z : Int) : ∃ L' : List Pl, L'.length = L.length ∧ PQ L' ∧ TO (w.setCell ⟨g, 1, none⟩ (.int .i64 z)) e B (some ⟨g, 0, none⟩) c L' := by
  cases L with
  | nil => simp at h0
  | cons r L =>
    refine ⟨⟨r.x, z, r.t⟩ :: L, rfl, fun x hx => ?_, ?_⟩
    · rcases List.mem_cons.1 hx with rfl | hx
      · exact hL r (List.mem_cons_self ..)
      · exact hL x (List.mem_cons_of_mem _ hx)
    · have := (World.ownsRow.stored h 1 (.int .i64 z)).1
      unfold TO
      simpa [Rec.cells] using this
theorem TO.setT {w : World} {B g c : Nat} {e : TypeId} {L : List Pl} (h : TO w e B (some ⟨g, 0, none⟩) c L) (h0 : 0 < L.length) (hL : PQ L) {s : ByteArray} (hs : s.size ≤ 9) : ∃ L' : List Pl, L'.length = L.length ∧ PQ L' ∧ TO (w.setCell ⟨g, 2, none⟩ (.string s)) e B (some ⟨g, 0, none⟩) c L' := by
  cases L with
  | nil => simp at h0
  | cons r L =>
    refine ⟨⟨r.x, r.y, s⟩ :: L, rfl, fun x hx => ?_, ?_⟩
    · rcases List.mem_cons.1 hx with rfl | hx
      · exact hs
      · exact hL x (List.mem_cons_of_mem _ hx)
    · have := (World.ownsRow.stored h 2 (.string s)).1
      unfold TO
      simpa [Rec.cells] using this

set_option maxHeartbeats 4000000 in
theorem randomPlaced_any (w : World) (B g N : Nat) (wd hg' : Int) (h : RD w B g N) (hN : N ≤ 100000000) (hB : B ≤ w.heap.size) (w0 : 1 ≤ wd ∧ wd ≤ 60) (h0 : 1 ≤ hg' ∧ hg' ≤ 60) :
    Calls Try.prog 107 #[.pointer (some ⟨g, 0, none⟩), .int .i64 wd, .int .i64 hg'] w fun e w' => ∃ (A : Option Addr) (c : Nat) (L : List Pl), e = .returned (.slice A L.length c) ∧ TO w' 58 w.heap.size A c L ∧ L.length ≤ 5 ∧ PQ L ∧ RD w' B g (N + 20) ∧ w.grownBy w' (some g) := by
  obtain ⟨i0, hi0, jz0, jz1, jz2⟩ := info_parts Placed_info
  obtain ⟨w0, w1⟩ := w0
  obtain ⟨h0, h1⟩ := h0
  have hg := h.lt
  go_enter Try.func107, Try.ntmps107
  have H0 : Hid (TO (w.alloc (.cells #[] 58)) 58 w.heap.size (some ⟨w.heap.size, 0, none⟩) 0 ([] : List Pl)) := hide (TO.lit0 (Nat.le_refl _))
  go_wp2_with fail
  refine (pick_any _ B g _ _ (RD.alloc h _) (by omega) (by omega) (by omega)).mono ?_
  rintro e u0 ⟨r, hr0, hr1, rfl, hrd, hon⟩
  have H1 := hide (H0.out.readP hon hg)
  have O1 := hide (on_call hon (on_alloc (on_refl w (some g)) _))
  have hz := hon.size
  simp at hz
  clear hon h H0
  go_wp2
  go_loopw [7, 8] (fun v i u => ∃ (q m : Nat) (A : Option Addr) (cc : Nat) (L : List Pl), q + m ≤ 5 ∧ i = .int .i64 m ∧ v = .slice A q cc ∧ q = L.length ∧ PQ L ∧ TO u 58 w.heap.size A cc L ∧ RD u B g (N + 16 - 3 * m) ∧ w.grownBy u (some g)) (fun _ i _ => (intOf i).toNat)
  case atStart => exact ⟨0, r.toNat, _, _, [], by omega, by go_num, rfl, rfl, PQ.nil, H1.out, hrd.more (by omega) (Nat.le_refl _) (by omega), O1.out⟩
  case round =>
    obtain ⟨q, m, A, cc, L, hqm, rfl, rfl, hpl, hfb, hol, hrd, hon⟩ := hrel
    have HPL := hide hpl
    have HFB := hide hfb
    clear hpl hfb
    have hzr := hon.size
    rcases Nat.eq_zero_or_pos m with hm | hm
    · subst hm
      go_wp2
      go_ret
      exact ⟨A, cc, L, by rw [← HPL.out]; rfl, hol, by rw [← HPL.out]; omega, HFB.out, hrd.more (by omega) (Nat.le_refl _) (by omega), hon⟩
    · go_wp2_with fail
      refine (of_any _ B g _ _ _ (fun z => 1 ≤ z.size ∧ z.size ≤ 3) (RD.alloc hrd _) (by omega) (by exact heap_alloc_new _ _) (by omega) (by rfl) (by decide) (by intro v hv; simp at hv; rcases hv with rfl | rfl | rfl | rfl <;> exact ⟨_, rfl, by decide⟩)).mono ?_
      rintro e u1 ⟨s, ⟨hs0, hs1⟩, rfl, hrd1, hon1⟩
      have hol1 := (hol.alloc _).readP hon1 hg
      have O2 := hide (on_call hon1 (on_alloc hon _))
      have hz1 := hon1.size
      simp at hz1
      clear hol hon hon1 hrd
      rcases (by omega : wd < (s.size : Int) ∨ (s.size : Int) ≤ wd) with hc | hc
      · go_wp2
        go_roundw
        case rel => exact ⟨q, m - 1, A, cc, L, by omega, by go_num, rfl, HPL.out, HFB.out, hol1, hrd1.more (by omega) (Nat.le_refl _) (by omega), O2.out⟩
        case measure => simp [intOf]; omega
      · go_wp2_with fail
        refine (pick_any _ B g _ _ hrd1 (by omega) (by omega) (by omega)).mono ?_
        rintro e u2 ⟨x, hx0, hx1, rfl, hrd2, hon2⟩
        have hol2 := hol1.readP hon2 hg
        have O3 := hide (on_call hon2 O2.out)
        have hz2 := hon2.size
        clear hol1 hon2 hrd1 O2
        go_wp2_with fail
        refine (pick_any _ B g _ _ hrd2 (by omega) (by omega) (by omega)).mono ?_
        rintro e u3 ⟨y, hy0, hy1, rfl, hrd3, hon3⟩
        have hol3 := hol2.readP hon3 hg
        have O4 := hide (on_call hon3 O3.out)
        have hz3 := hon3.size
        have hz4 : w.heap.size ≤ u3.heap.size := by omega
        clear hol2 hon3 hrd2 O3
        go_wp2_with (at_builtin; refine wpList_append_rec rfl (.tmp 24) (.tmp 37) _ rfl 58 i0 _ 32 Try.underlying48 hi0 jz0 jz1 jz2 rfl (by decide) w.heap.size A cc q L rfl (HPL.out) (hol3.alloc _) u3.heap.size ⟨x, y, s⟩ rfl (ones3p _) (cells3p _ _ _ _ _) (by omega) (by simp; omega) ?_; intro A' c' w' hol' hb' hg')
        go_roundw
        case rel => exact ⟨q + 1, m - 1, A', c', L ++ [⟨x, y, s⟩], by omega, by go_num, rfl, by simp [HPL.out], HFB.out.snoc (by show s.size ≤ 9; omega), hol', ((hrd3.alloc _).below' hb' (by omega)).more (by omega) (Nat.le_refl _) (by have := hb'.size; simp at this; omega), on_below' hb' (Nat.le_refl _) (on_alloc O4.out _)⟩
        case measure => simp [intOf]; omega
end Go.Proofs.Ytpgcpmfnidjhnaa
