/- Numbers in decimal, and in the three styles, in the program and in its model. -/
import Derived.Test.YtonkbakoifdmiaaDoorRom
import Derived.Test.YtonkbakoifdmiaaDoorItoa
import Derived.Lib.SmallJoins
namespace Go.Proofs.YtonkbakoifdmiaaDoor
open Go.ChangeShapes Go.WideShapes Go.ChangeAt Go.RowKit
set_option linter.unusedVariables false

def TabOk (w : World) : Prop := Lib.TabIs Tryd.prog w "internal/strconv.uint64pow10" .u64 Lib.pow10Tab
theorem TabOk.below {w w' : World} (h : TabOk w) (hb : Below w.heap.size w w') : TabOk w' :=
  Joins.tab_stays (show Tryd.prog.globalNamed "internal/strconv.uint64pow10" = some 1 by kernel_rfl) h hb (Nat.le_refl _)
theorem below_grow (w : World) (k : Nat) (os : Array Obj) : Below w.heap.size w (Sort.grow (w.drewN k) os) :=
  ⟨rfl, rfl, rfl, by simp [Sort.grow], fun i hi => by
    show (w.heap ++ os)[i]? = w.heap[i]?
    rw [Array.getElem?_append_left hi]⟩
theorem Itoa_any (m : Nat) (h : m ≤ 1000000000) (w : World) (ht : TabOk w) :
    Calls Tryd.prog 27 #[.int .i64 m] w fun e w' => e = .returned (.string (bs (Lib.decDigits m))) ∧ Below w.heap.size w w' := by
  refine (Any.strconv_Itoa Tryd.laysM171 (m : Int) (by omega) (by omega) w ht).mono ?_
  rintro e w' ⟨rfl, k, os, rfl⟩
  exact ⟨by rw [Lib.itoa_nonneg]; rfl, below_grow _ _ _⟩

theorem conv_at {u : World} {b : Nat} {z : Int} (h : u.cell? ⟨b, 0, none⟩ = some (.int .u8 z)) : (convert 29 9 (.slice (some ⟨b, 0, none⟩) 1 1)).run Tryd.prog u = .ok (.string (one z)) u := by
  rw [run_convert_bytes_string _ 29 9 5 _ _ _ Tryd.underlying29 Tryd.underlying5 Tryd.underlying9, run_bytesToString _ _ 1 1 [z]]
  · rfl
  · simp [loadCells, loadCellsFrom, Addr.add, Result.andThen, h]
theorem dec_len (m : Nat) (h : m < 1000000) : (Lib.decDigits m).length ≤ 6 := by
  have step : ∀ (k : Nat), k ≥ 10 → (Lib.decDigits k).length = (Lib.decDigits (k / 10)).length + 1 := fun k hk => by
    rw [Lib.decDigits, dif_neg (Nat.not_lt.2 hk)]; simp
  have base : ∀ (k : Nat), k < 10 → (Lib.decDigits k).length = 1 := fun k hk => by rw [Lib.decDigits_one hk]; rfl
  rcases Nat.lt_or_ge m 10 with h1 | h1
  · rw [base m h1]; omega
  rw [step m h1]
  rcases Nat.lt_or_ge (m / 10) 10 with h2 | h2
  · rw [base _ h2]; omega
  rw [step _ h2]
  rcases Nat.lt_or_ge (m / 10 / 10) 10 with h3 | h3
  · rw [base _ h3]; omega
  rw [step _ h3]
  rcases Nat.lt_or_ge (m / 10 / 10 / 10) 10 with h4 | h4
  · rw [base _ h4]; omega
  rw [step _ h4]
  rcases Nat.lt_or_ge (m / 10 / 10 / 10 / 10) 10 with h5 | h5
  · rw [base _ h5]; omega
  rw [step _ h5, base _ (by omega)]
  omega
theorem dec_bytes (m : Nat) : (∀ c ∈ Lib.decDigits m, 48 ≤ c.toNat ∧ c.toNat ≤ 57) ∧ 0 < (Lib.decDigits m).length := by
  induction m using Nat.strongRecOn with
  | ind m ih =>
    have key : ∀ d, d < 10 → 48 ≤ (UInt8.ofNat (48 + d)).toNat ∧ (UInt8.ofNat (48 + d)).toNat ≤ 57 := fun d hd => by
      have : (48 + d) % 256 = 48 + d := Nat.mod_eq_of_lt (by omega)
      rw [UInt8.toNat_ofNat', this]; omega
    rcases Nat.lt_or_ge m 10 with h | h
    · rw [Lib.decDigits_one h]
      exact ⟨fun c hc => by rw [List.mem_singleton] at hc; subst hc; exact key m h, by simp⟩
    · rw [Lib.decDigits, dif_neg (Nat.not_lt.2 h)]
      refine ⟨fun c hc => ?_, by simp⟩
      rcases List.mem_append.1 hc with hc | hc
      · exact (ih (m / 10) (by omega)).1 c hc
      · rw [List.mem_singleton] at hc; subst hc; exact key _ (Nat.mod_lt _ (by omega))

theorem formatInt_s (m : Nat) : ∀ (w : World), m < 1000000 →
    Calls Tryd.prog 25 #[.int .i64 m] w fun e w' => e = .returned (.string (bs (Lib.decDigits m))) ∧ Below w.heap.size w w' := by
  induction m using Nat.strongRecOn with
  | ind m ih =>
    intro w hm
    have hcv := conv_new
    have hos := one_size
    obtain ⟨z, hz⟩ : ∃ z : Int, z = (m : Int) := ⟨_, rfl⟩
    rw [← hz]
    rcases Nat.lt_or_ge m 10 with h | h
    · have E : Hid (one (48 + z) = bs (Lib.decDigits m)) := hide (bs_eq (by rw [Lib.decDigits_one h, one_list, hz, show (48 + (m : Int)).toNat = 48 + m from by omega]))
      have z0 : 0 ≤ z := by omega
      have z1 : z < 10 := by omega
      clear hz h hm ih
      go_enter Tryd.func25, Tryd.ntmps25
      go_wp2_with fail
      go_ret
      exact ⟨str_ret E.out, bl_alloc (bl_refl _) _⟩
    · have E : Hid (bs (Lib.decDigits (m / 10)) ++ one (48 + z % 10) = bs (Lib.decDigits m)) := hide (bs_eq (by
        rw [ByteArray.data_append, Array.toList_append, bs_data, one_list, hz, show (48 + (m : Int) % 10).toNat = 48 + m % 10 from by omega]
        conv => rhs; rw [Lib.decDigits, dif_neg (Nat.not_lt.2 h)]))
      have DL : (bs (Lib.decDigits (m / 10))).size ≤ 6 := by rw [bs_size]; exact dec_len _ (by omega)
      have IH := fun (u : World) => ih (m / 10) (by omega) u (by omega)
      obtain ⟨t, ht⟩ : ∃ t, t = bs (Lib.decDigits (m / 10)) := ⟨_, rfl⟩
      rw [← ht, show ((m / 10 : Nat) : Int) = z / 10 from by omega] at IH
      rw [← ht] at E DL
      have HIH := hide IH
      have z0 : 10 ≤ z := by omega
      have z1 : z < 1000000 := by omega
      have e1 : z.tdiv 10 = z / 10 := Int.tdiv_eq_ediv_of_nonneg (by omega)
      have e2 : z.tmod 10 = z % 10 := Int.tmod_eq_emod_of_nonneg (by omega)
      have w1 : IntKind.i64.wrap (z / 10) = z / 10 := IntWalk.i64_in _ (by omega)
      have w2 : IntKind.i64.wrap (48 + z % 10) = 48 + z % 10 := IntWalk.i64_in _ (by omega)
      have w3 : IntKind.u8.wrap (48 + z % 10) = 48 + z % 10 := IntWalk.u8_in _ (by omega)
      clear IH ih ht hz h hm
      go_enter Tryd.func25, Tryd.ntmps25
      go_wp2_with fail
      have hk1 : ((w.alloc (.cells #[.int .u8 (48 + z % 10)] 5)).drew).cell? ⟨w.heap.size, 0, none⟩ = some (.int .u8 (48 + z % 10)) := by simp [go_sem]
      have hk2 : ((w.drew).alloc (.cells #[.int .u8 (48 + z % 10)] 5)).cell? ⟨w.heap.size, 0, none⟩ = some (.int .u8 (48 + z % 10)) := World.cell?_alloc_at _ _ _ _ rfl
      have hc1 := conv_at hk1
      have hc2 := conv_at hk2
      go_region_with (go_at_call 25; ((with_reducible refine (HIH.out _).mono ?_)); rintro e u1 ⟨rfl, hb⟩; (try (with_reducible have hb := bl_undrew hb)); (try (have hq : u1.cell? ⟨w.heap.size, 0, none⟩ = some (.int .u8 (48 + z % 10)) := keep_cell hb (by simp [go_sem]); have hcq := conv_at hq)))
      all_goals
        go_wp2_with fail
        go_ret
        refine ⟨str_ret E.out, ?_⟩
        repeat' (first | with_reducible exact bl_refl _ | with_reducible assumption | with_reducible refine bl_alloc ?_ _ | with_reducible refine bl_set ?_ ?_ _ | with_reducible refine bl_drewN ?_ _ | with_reducible refine bl_drew ?_ | with_reducible refine bl_call (by assumption) ?_)
        all_goals (first | omega | (simp; done) | (simp; omega))
end Go.Proofs.YtonkbakoifdmiaaDoor
