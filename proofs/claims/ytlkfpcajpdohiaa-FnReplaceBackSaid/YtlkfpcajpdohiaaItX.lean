/- The exact law on CommonItems holds at every input: it answers as its model does and writes into no argument. No condition. -/
import Derived.Test.YtlkfpcajpdohiaaSa
import Derived.Test.YtlkfpcajpdohiaaItC
namespace Go.Proofs.Ytlkfpcajpdohiaa
open Go.ChangeShapes Go.WideShapes Go.ChangeAt Go.RowKit
set_option linter.unusedVariables false
open Classical

noncomputable def ciO (L M : List It) : Int := if isOk L = true ∧ isOk M = true then (kp L M : Int) else -1
theorem ciO_yes {L M : List It} (h : isOk L = true) (k : isOk M = true) : ciO L M = kp L M := if_pos ⟨h, k⟩
theorem ciO_no1 {L M : List It} (h : isOk L = false) : ciO L M = -1 := if_neg (fun x => by rw [h] at x; cases x.1)
theorem ciO_no2 {L M : List It} (h : isOk M = false) : ciO L M = -1 := if_neg (fun x => by rw [h] at x; cases x.2)
set_option maxHeartbeats 2000000 in
theorem CommonItems_i (w : World) (A B : Option Addr) (n m c d : Nat) (L M : List It) (ha : TL w A n L) (hb : TL w B m M) (hn : n ≤ 4611686018427387904) (hm : m ≤ 4611686018427387904) :
    Calls Try.prog 22 #[.slice A n c, .slice B m d] w fun e w' => e = .returned (.int .i64 (ciO L M)) ∧ Below w.heap.size w w' := by
  obtain rfl : n = L.length := ha.1
  obtain rfl : m = M.length := hb.1
  have HA := hide ha
  have HB := hide hb
  clear ha hb
  have CA := hide (fun (v : World) (hv : TL v A L.length L) => ValidItems_i v A L.length c L hv hn)
  have CB := hide (fun (v : World) (hv : TL v B M.length M) => ValidItems_i v B M.length d M hv hm)
  cases q : isOk L
  · have E := hide (ciO_no1 (M := M) q)
    rw [q] at CA
    clear q
    go_enter Try.func22, Try.ntmps22
    go_wp2_with fail
    (with_reducible refine (CA.out _ HA.out).mono ?_)
    rintro e u1 ⟨rfl, hb1⟩
    go_wp2
    go_ret
    exact ⟨int_ret E.out.symm, hb1⟩
  cases q2 : isOk M
  · have E := hide (ciO_no2 (L := L) q2)
    rw [q] at CA
    rw [q2] at CB
    clear q q2
    go_enter Try.func22, Try.ntmps22
    go_wp2_with fail
    (with_reducible refine (CA.out _ HA.out).mono ?_)
    rintro e u1 ⟨rfl, hb1⟩
    go_wp2_with fail
    (with_reducible refine (CB.out _ (HB.out.below hb1)).mono ?_)
    rintro e u2 ⟨rfl, hb2⟩
    go_wp2
    go_ret
    exact ⟨int_ret E.out.symm, bl_call hb2 hb1⟩
  · have E := hide (ciO_yes q q2)
    rw [q] at CA
    rw [q2] at CB
    clear q q2
    go_enter Try.func22, Try.ntmps22
    go_wp2_with fail
    (with_reducible refine (CA.out _ HA.out).mono ?_)
    rintro e u1 ⟨rfl, hb1⟩
    go_wp2_with fail
    (with_reducible refine (CB.out _ (HB.out.below hb1)).mono ?_)
    rintro e u2 ⟨rfl, hb2⟩
    have B2 := hide (bl_call hb2 hb1)
    clear hb1 hb2
    go_wp2_with fail
    (with_reducible refine (common_i _ _ _ _ _ _ _ L M (HA.out.below B2.out) (HB.out.below B2.out) hn hm).mono ?_)
    rintro e u3 ⟨rfl, j, rfl⟩
    go_wp2
    go_ret
    exact ⟨int_ret E.out.symm, bl_drewN B2.out _⟩
end Go.Proofs.Ytlkfpcajpdohiaa
