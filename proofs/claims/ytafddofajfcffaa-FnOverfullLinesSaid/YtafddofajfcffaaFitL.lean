/- The exact law on FitLine holds at every input: it answers as its model does and writes into no argument. No condition. -/
import Derived.Test.YtafddofajfcffaaJn
import Derived.Test.YtafddofajfcffaaFit
namespace Go.Proofs.Ytafddofajfcffaa
open Go.ChangeShapes Go.WideShapes Go.ChangeAt Go.RowKit
set_option linter.unusedVariables false

/-- What FitLine answers. -/
noncomputable def ftO (L : List It) (a b d : Int) : Int × Int := if isOk L then ftL L a b d else (0, -1)
theorem ftO_no {L : List It} {a b d : Int} (h : isOk L = false) : ftO L a b d = (0, -1) := by simp [ftO, h]
theorem ftO_yes {L : List It} {a b d : Int} (h : isOk L = true) : ftO L a b d = ftL L a b d := by simp [ftO, h]
theorem ftO_non {L : List It} {a b d : Int} (h : (okL L a b && inB d 1 10000) = false) : ftO L a b d = (0, -1) := by
  cases q : isOk L
  · exact ftO_no q
  · rw [ftO_yes q]
    exact ftL_no (by simpa [okL, q] using h)
set_option maxRecDepth 8000 in
set_option maxHeartbeats 4000000 in
theorem FitLine_i (w : World) (A : Option Addr) (n c : Nat) (L : List It) (h : TL w A n L) (hn : n ≤ 1048576) (a b d : Int) (wa : -9223372036854775808 ≤ a ∧ a ≤ 9223372036854775807) (wb : -9223372036854775808 ≤ b ∧ b ≤ 9223372036854775807) :
    Calls Try.prog 60 #[.slice A n c, .int .i64 a, .int .i64 b, .int .i64 d] w fun e w' => e = .returned (.tuple #[.int .i64 (ftO L a b d).1, .int .i64 (ftO L a b d).2]) ∧ Below w.heap.size w w' := by
  have ME := hide (measure_i w A n c L h (by omega))
  obtain rfl : n = L.length := h.1
  clear h
  cases hok : isOk L
  · have E := hide (ftO_no (L := L) (a := a) (b := b) (d := d) hok)
    rw [hok] at ME
    clear hok wa wb
    go_enter Try.func60, Try.ntmps60
    go_wp2_with fail
    (with_reducible refine ME.out.mono ?_)
    rintro e u1 ⟨v, rfl, hv, hv0, hb⟩
    obtain rfl := hv0 (by trivial)
    have HB1 := hide hb
    clear hv hv0 hb
    go_wp2
    go_ret2
    exact ⟨by rw [E.out]; rfl, bl_alloc HB1.out _⟩
  · have HK := isOk_iff.1 hok
    have HALL := hide HK.1
    have hl60 := HK.2.1
    rw [hok] at ME
    rw [ftO_yes hok]
    clear HK hok
    go_enter Try.func60, Try.ntmps60
    go_wp2_with fail
    (with_reducible refine ME.out.mono ?_)
    rintro e u1 ⟨v, rfl, hv, hv0, hb⟩
    obtain ⟨g, c1, gs, gf, gb, rfl, hrow, hpr⟩ := hv (by trivial)
    have HPS := hide (ps_made hrow hpr)
    have HB1 := hide (bl_alloc hb (.cells #[.slice (some ⟨g, 0, none⟩) L.length c1, .slice (some ⟨gs, 0, none⟩) (L.length + 1) (L.length + 1), .slice (some ⟨gf, 0, none⟩) (L.length + 1) (L.length + 1), .slice (some ⟨gb, 0, none⟩) (L.length + 1) (L.length + 1)] 92))
    have HF := hide (fit_i _ L HPS.out HALL.out hl60 a b d wa wb)
    clear hv hv0 hb hrow hpr wa wb
    have k0 := HPS.out.k0
    have k1 := HPS.out.k1
    have k2 := HPS.out.k2
    have k3 := HPS.out.k3
    go_wp2_with fail
    (with_reducible refine HF.out.mono ?_)
    rintro e u2 ⟨rfl, hb⟩
    have HB2 := hide (bl_call hb HB1.out)
    clear hb k0 k1 k2 k3
    go_wp2
    go_ret2
    exact ⟨rfl, HB2.out⟩
end Go.Proofs.Ytafddofajfcffaa
