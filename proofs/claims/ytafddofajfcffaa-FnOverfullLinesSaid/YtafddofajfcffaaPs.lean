/- A measured paragraph that a function keeps in a variable; the breaks of a paragraph in the program. -/
import Derived.Test.YtafddofajfcffaaHas
namespace Go.Proofs.Ytafddofajfcffaa
open Go.ChangeShapes Go.WideShapes Go.ChangeAt Go.RowKit
set_option linter.unusedVariables false

/-- A measured paragraph lies in the variable at block gp. -/
structure PS (u : World) (B gp g c1 gs gf gb : Nat) (L : List It) : Prop where
  k0 : u.cell? ⟨gp, 0, none⟩ = some (.slice (some ⟨g, 0, none⟩) L.length c1)
  k1 : u.cell? ⟨gp, 1, none⟩ = some (.slice (some ⟨gs, 0, none⟩) (L.length + 1) (L.length + 1))
  k2 : u.cell? ⟨gp, 2, none⟩ = some (.slice (some ⟨gf, 0, none⟩) (L.length + 1) (L.length + 1))
  k3 : u.cell? ⟨gp, 3, none⟩ = some (.slice (some ⟨gb, 0, none⟩) (L.length + 1) (L.length + 1))
  row : u.ownsRow B 132 1 (.slice (some ⟨g, 0, none⟩) L.length c1) L.length (L.map part)
  pr : PR u B gs gf gb (SL L L.length) (FL L L.length) (XL L L.length) (L.length + 1)
theorem PS.below {u u' : World} {B gp g c1 gs gf gb : Nat} {L : List It} (h : PS u B gp g c1 gs gf gb L) (hb : Below u.heap.size u u') : PS u' B gp g c1 gs gf gb L :=
  ⟨keep_cell hb h.k0, keep_cell hb h.k1, keep_cell hb h.k2, keep_cell hb h.k3, own_below h.row hb, pr_below h.pr hb⟩
theorem PS.drew {u : World} {B gp g c1 gs gf gb : Nat} {L : List It} (h : PS u B gp g c1 gs gf gb L) : PS u.drew B gp g c1 gs gf gb L := h.below (bl_drew (bl_refl u))
/-- The variable is made, and what was measured is laid into it. -/
theorem ps_made {u : World} {B g c1 gs gf gb : Nat} {L : List It} (hr : u.ownsRow B 132 1 (.slice (some ⟨g, 0, none⟩) L.length c1) L.length (L.map part)) (hp : PR u B gs gf gb (SL L L.length) (FL L L.length) (XL L L.length) (L.length + 1)) :
    PS (u.alloc (.cells #[.slice (some ⟨g, 0, none⟩) L.length c1, .slice (some ⟨gs, 0, none⟩) (L.length + 1) (L.length + 1), .slice (some ⟨gf, 0, none⟩) (L.length + 1) (L.length + 1), .slice (some ⟨gb, 0, none⟩) (L.length + 1) (L.length + 1)] 92)) B u.heap.size g c1 gs gf gb L := by
  have ba := bl_alloc (bl_refl u) (.cells #[.slice (some ⟨g, 0, none⟩) L.length c1, .slice (some ⟨gs, 0, none⟩) (L.length + 1) (L.length + 1), .slice (some ⟨gf, 0, none⟩) (L.length + 1) (L.length + 1), .slice (some ⟨gb, 0, none⟩) (L.length + 1) (L.length + 1)] 92)
  exact ⟨by simp [go_sem], by simp [go_sem], by simp [go_sem], by simp [go_sem], own_below hr ba, pr_below hp ba⟩

set_option maxRecDepth 8000 in
set_option maxHeartbeats 4000000 in
theorem BreaksOf_i (w : World) (A : Option Addr) (n c : Nat) (L : List It) (h : TL w A n L) (hn : n ≤ 1048576) :
    Calls Try.prog 53 #[.slice A n c] w (RetL w (brO L)) := by
  have ME := hide (measure_i w A n c L h (by omega))
  obtain rfl : n = L.length := h.1
  clear h
  obtain ⟨i0, hi0, jz0, jz1, jz2⟩ := info_parts int_info
  cases hok : isOk L
  · have E := hide (brO_no hok)
    rw [hok] at ME
    clear hok
    go_enter Try.func53, Try.ntmps53
    go_wp2_with fail
    (with_reducible refine ME.out.mono ?_)
    rintro e u1 ⟨v, rfl, _, hv, hb⟩
    obtain rfl := hv (by trivial)
    have HB1 := hide hb
    clear hv hb
    go_wp2
    go_ret
    exact ⟨none, 0, by rw [E.out]; rfl, by rw [E.out]; exact OL.nil _ _ _, bl_alloc HB1.out _⟩
  · have E := hide (brO_yes hok)
    have HK := isOk_iff.1 hok
    have HALL := hide HK.1
    have hl60 := HK.2.1
    have hl1 := HK.2.2.1
    rw [hok] at ME
    clear hok HK
    go_enter Try.func53, Try.ntmps53
    go_wp2_with fail
    (with_reducible refine ME.out.mono ?_)
    rintro e u1 ⟨v, rfl, hv, _, hb⟩
    obtain ⟨g, c1, gs, gf, gb, rfl, hrow, hpr⟩ := hv (by trivial)
    have HPS := hide (ps_made hrow hpr)
    have HB1 := hide (bl_alloc hb (.cells #[.slice (some ⟨g, 0, none⟩) L.length c1, .slice (some ⟨gs, 0, none⟩) (L.length + 1) (L.length + 1), .slice (some ⟨gf, 0, none⟩) (L.length + 1) (L.length + 1), .slice (some ⟨gb, 0, none⟩) (L.length + 1) (L.length + 1)] 92))
    have HU1 := hide hb.size
    clear hv hrow hpr hb
    go_wp2
    go_loopw [5, 17] (fun t i u => ∃ (u2 : World) (k : Nat) (A2 : Option Addr) (m cc : Nat), k ≤ L.length ∧ t = .slice A2 m cc ∧ i = .int .i64 k ∧ m = (brTo L k).length ∧ PS u2 w.heap.size u1.heap.size g c1 gs gf gb L ∧ Below w.heap.size w u2 ∧ OL u 3 u2.heap.size A2 cc (brTo L k) ∧ Below u2.heap.size u2 u) (fun _ i _ => L.length - (intOf i).toNat)
    case atStart => exact ⟨_, 0, none, 0, 0, by omega, rfl, rfl, rfl, HPS.out, HB1.out, OL.nil _ _ _, bl_refl _⟩
    case round =>
      obtain ⟨u2, k, A2, m, cc, hk, rfl, rfl, hm, hps, hb2, hol, hbl⟩ := hrel
      have hmk : m ≤ k := by rw [hm]; exact brTo_len L k
      have HM := hide hm
      have HB2 := hide hb2
      have HBL := hide hbl
      have hzr := hbl.size
      have HP2 := hide hps
      have HPW := hide (hps.below hbl)
      clear hm hb2 hps hbl
      by_cases hlt : k < L.length
      · have d0 := HPW.out.k0
        have d1 := HPW.out.k1
        have d2 := HPW.out.k2
        have d3 := HPW.out.k3
        have IB := fun (u : World) (hu : u.ownsRow w.heap.size 132 1 (.slice (some ⟨g, 0, none⟩) L.length c1) L.length (L.map part)) (x1 x2 x3 : Value) => mayEndAt_i u x1 x2 x3 L HALL.out hl60.2 hu hlt
        obtain ⟨fb, hfb⟩ : ∃ fb, fb = mayE L k := ⟨_, rfl⟩
        rw [← hfb] at IB
        have HIB := hide IB
        have ST := hide (show brTo L (k + 1) = if fb then brTo L k ++ [(k : Int)] else brTo L k by rw [hfb]; rfl)
        clear IB hfb
        go_wp2_with fail
        (with_reducible refine (HIB.out _ HPW.out.row _ _ _).mono ?_)
        rintro e u4 ⟨rfl, hb⟩
        have hol := hol.below hb
        have hzr := Nat.le_trans hzr hb.size
        have HB4 := hide (bl_call hb HBL.out)
        clear hb d0 d1 d2 d3
        cases fb
        · have M := hide (show brTo L (k + 1) = brTo L k by rw [ST.out]; rfl)
          go_wp2
          go_roundw
          case rel => exact ⟨u2, k + 1, A2, m, cc, by omega, rfl, by go_num, by rw [M.out]; exact HM.out, HP2.out, HB2.out, by rw [M.out]; exact hol, HB4.out⟩
          case measure => simp [intOf]; omega
        · have M := hide (show brTo L (k + 1) = brTo L k ++ [(k : Int)] by rw [ST.out]; rfl)
          go_wp2_with (at_builtin; refine wpList_append_int rfl (.tmp 23) (.tmp 25) _ rfl 3 i0 Try.underlying24 hi0 jz0 jz1 jz2 (u2.heap.size) A2 cc m (brTo L k) rfl (HM.out) (hol.alloc _) u4.heap.size (k : Int) rfl (by simp) (by omega) (by simp; omega) ?_; intro A' c' w' hol' hb' hg')
          go_roundw
          case rel => exact ⟨u2, k + 1, A', m + 1, c', by omega, rfl, by go_num, by rw [M.out, List.length_append, ← HM.out]; rfl, HP2.out, HB2.out, by rw [M.out]; exact hol', (bl_alloc HB4.out _).trans hb'⟩
          case measure => simp [intOf]; omega
      · have HE := hide (show k = L.length by omega)
        go_wp2
        go_ret
        refine ⟨A2, cc, by rw [E.out, HM.out, HE.out]; rfl, ?_, bl_call HBL.out HB2.out⟩
        rw [E.out, ← HE.out]
        exact World.ownsRow.mono hol HB2.out.size
end Go.Proofs.Ytafddofajfcffaa
