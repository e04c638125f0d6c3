/- Roman numerals of all numbers are read again. It speaks of no program. -/
import Derived.Test.YtonkbakoifdmiaaDoorNumM
namespace Go.Proofs.YtonkbakoifdmiaaDoor
theorem fr_all : (List.range 4000).all (fun n => n == 0 || frv (rom 0 n) == n) = true := by decide +kernel
theorem fr_rom {m : Nat} (h0 : 1 ≤ m) (h1 : m ≤ 3999) : fr (rom 0 m) = ((m : Int), true) := by
  have := List.all_eq_true.1 fr_all m (by simp; omega)
  simp at this
  have e : frv (rom 0 m) = m := by
    rcases this with h | h
    · omega
    · exact h
  unfold fr
  have k : okR (rom 0 m) = true := by unfold okR; rw [e]; simp; omega
  rw [if_pos k, e]
end Go.Proofs.YtonkbakoifdmiaaDoor
