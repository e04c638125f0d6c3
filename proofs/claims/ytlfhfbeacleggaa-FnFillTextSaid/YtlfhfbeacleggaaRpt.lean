/- strings.Repeat of a space, few times. -/
import Derived.Test.YtlfhfbeacleggaaBmul
import Derived.Test.YtlfhfbeacleggaaWord
import Derived.LoopTactic
import Derived.Lib.Strings
namespace Go.Proofs.Ytlfhfbeacleggaa
open Go.ChangeShapes Go.WideShapes Go.ChangeAt Go.RowKit
set_option linter.unusedVariables false

/-- n spaces. -/
def spc (n : Nat) : ByteArray := ⟨(List.replicate n (32 : UInt8)).toArray⟩
theorem spc_size (n : Nat) : (spc n).size = n := by simp [spc, ByteArray.size]
theorem spc_toList (n : Nat) : (spc n).data.toList = List.replicate n 32 := by simp [spc]
theorem ext_spc (m n : Nat) (h : n ≤ m) : (spc m).extract 0 n = spc n := by
  apply ByteArray.ext
  apply Array.toList_inj.1
  simp [spc, ByteArray.data_extract, List.take_replicate]
  omega
theorem pre_sp {x : ByteArray} (h : x = spc 128) : (x.extract 0 1).toList = (⟨#[32]⟩ : ByteArray).toList := by
  rw [h, ext_spc 128 1 (by omega)]
  rfl
set_option maxHeartbeats 2000000 in
set_option maxRecDepth 100000 in
theorem litePrefix_sp (x : ByteArray) (hx : x = spc 128) (w : World) : Calls Try.prog 206 #[.string x, .string ⟨#[32]⟩] w fun e w' => e = .returned (.bool true) ∧ w = w' := by
  have e2 : x.size = 128 := by rw [hx, spc_size]
  have hp := pre_sp hx
  have SX : ∀ W : World, (Instr.slice 9 (.string x) none (some (.int .i64 1)) none).run Try.prog W = .ok (.string (x.extract 0 1)) W := fun W => by
    have := run_slice_string_h (P := Try.prog) W 9 x Try.underlying9 .i64 (1 : Int) (by omega) (by omega)
    rw [this]; rfl
  have q : ((x.extract 0 1).toList == (⟨#[32]⟩ : ByteArray).toList) = true := by rw [hp]; simp
  clear hx
  go_enter Try.func206, Try.ntmps206
  go_wp2
  go_ret
  exact ⟨bool_ret (by first | rfl | simp [hp] | simp [q]), rfl⟩
set_option maxHeartbeats 2000000 in
set_option maxRecDepth 100000 in
theorem HasPrefix_sp (x : ByteArray) (hx : x = spc 128) (w : World) : Calls Try.prog 187 #[.string x, .string ⟨#[32]⟩] w fun e w' => e = .returned (.bool true) ∧ w = w' := by
  have HX := hide hx
  clear hx
  go_enter Try.func187, Try.ntmps187
  go_wp2_with fail
  (with_reducible refine (litePrefix_sp x HX.out _).mono ?_)
  rintro e w' ⟨rfl, rfl⟩
  go_wp2
  go_ret
  exact ⟨rfl, rfl⟩
set_option maxHeartbeats 4000000 in
set_option maxRecDepth 100000 in
theorem Repeat_sp (n : Nat) (h : n ≤ 100) (w : World) : Calls Try.prog 141 #[.string ⟨#[32]⟩, .int .i64 n] w fun e w' => e = .returned (.string (spc n)) ∧ w = w' := by
  rcases (by omega : n = 0 ∨ n = 1 ∨ 2 ≤ n) with rfl | rfl | h2
  · go_enter Try.func141, Try.ntmps141
    go_wp2
    go_ret
    exact ⟨str_ret rfl, rfl⟩
  · go_enter Try.func141, Try.ntmps141
    go_wp2
    go_ret
    exact ⟨rfl, rfl⟩
  · have g0 : ((n : Int) == 0) = false := beq_eq_false_iff_ne.2 (by omega)
    have g1 : ((n : Int) == 1) = false := beq_eq_false_iff_ne.2 (by omega)
    have hi : 1 * n / 18446744073709551616 = 0 := by omega
    have lo : 1 * n % 18446744073709551616 = n := by omega
    have CM := hide (fun (u : World) => Try.bits_Mul 1 n (by omega) (by omega) u)
    rw [hi, lo] at CM
    clear hi lo
    go_enter Try.func141, Try.ntmps141
    go_wp2_with (first | (go_at_call 148; refine (CM.out _).mono ?_; rintro e w' ⟨rfl, rfl⟩) | (go_at_call 187; refine (HasPrefix_sp _ (by decide) _).mono ?_; rintro e w' ⟨rfl, rfl⟩))
    all_goals first | (exfalso; revert ‹¬ _›; decide) | skip
    go_ret
    refine ⟨str_ret (Eq.trans ?_ (ext_spc 128 n (by omega))), rfl⟩
    congr 1
end Go.Proofs.Ytlfhfbeacleggaa
