/- slices.Repeat of a single 1: that many ones, in new memory. -/
import Derived.Test.YtlkfpcajpdohiaaSa
import Derived.Laws.CopyOwn
import Derived.Deep.RegionLaw
namespace Go.Proofs.Ytlkfpcajpdohiaa
open Go.ChangeShapes Go.WideShapes Go.ChangeAt Go.RowKit
set_option linter.unusedVariables false
set_option maxRecDepth 4000

theorem Mul_one (n : Nat) (h : n ≤ 8) (w : World) : Calls Try.prog 104 #[.int .u64 1, .int .u64 n] w fun e w' => e = .returned (.tuple #[.int .u64 0, .int .u64 n]) ∧ w = w' := by
  rcases (by omega : n = 0 ∨ n = 1 ∨ n = 2 ∨ n = 3 ∨ n = 4 ∨ n = 5 ∨ n = 6 ∨ n = 7 ∨ n = 8) with rfl | rfl | rfl | rfl | rfl | rfl | rfl | rfl | rfl
  all_goals
    go_enter Try.func104, Try.ntmps104
    go_wp2
    go_ret2
    exact ⟨rfl, rfl⟩

/-- n cells, the first p of them 1, the rest 0. -/
def ones (n p : Nat) : List Value := List.replicate p (.int .i64 1) ++ List.replicate (n - p) (.int .i64 0)
theorem ones_len {n p : Nat} (h : p ≤ n) : (ones n p).length = n := by simp [ones]; omega
theorem ones_get {n p j : Nat} (h : j < p) : (ones n p)[j]? = some (.int .i64 1) := by
  unfold ones
  rw [List.getElem?_append_left (by simpa using h), List.getElem?_replicate, if_pos h]
theorem ones_splice {n p q : Nat} (h : p + q ≤ n) : splice (ones n p) p (List.replicate q (.int .i64 1)) = ones n (p + q) := by
  unfold splice ones
  have e1 : (List.replicate p (Value.int .i64 1) ++ List.replicate (n - p) (Value.int .i64 0)).take p = List.replicate p (.int .i64 1) := by
    rw [List.take_append_of_le_length (by simp), List.take_of_length_le (by simp)]
  have e2 : (List.replicate p (Value.int .i64 1) ++ List.replicate (n - p) (Value.int .i64 0)).drop (p + (List.replicate q (Value.int .i64 1)).length) = List.replicate (n - (p + q)) (.int .i64 0) := by
    rw [List.length_replicate, List.drop_append, List.drop_of_length_le (by simp), List.nil_append, List.length_replicate, Nat.add_sub_cancel_left, List.drop_replicate]
    congr 1
    omega
  rw [e1, e2, ← List.replicate_append_replicate, List.append_assoc]
theorem OL_made {w : World} {g n B : Nat} {e : TypeId} (hB : B ≤ g) (hn : n ≤ 100) (h : w.heap[g]? = some (.cells (ones n n).toArray e (0, 0))) : OL w e B (some ⟨g, 0, none⟩) n (List.replicate n 1) := by
  have e1 : ones n n = (List.replicate n (1 : Int)).map (Value.int .i64) := by simp [ones]
  unfold OL
  rw [List.length_replicate]
  refine ⟨by simp, .inr ⟨g, n, _, rfl, hB, h, by omega, by unfold maxLen; omega, by simp [ones], ?_⟩⟩
  rw [e1]
  simp
theorem mk_ints (n : Nat) (W : World) (h : n ≤ 100) : (Instr.makeSlice 32 (.int .i64 (n : Int)) (.int .i64 (n : Int))).run Try.prog W = .ok (.slice (some ⟨W.heap.size, 0, none⟩) n n) (W.alloc (.cells (ones n 0).toArray 3)) := by
  obtain ⟨i0, hi, hz0, hz1, hz2⟩ := info_parts int_info
  have h := run_make (P := Try.prog) W 32 3 i0 (.int .i64 0) Try.underlying32 hi hz0 .i64 .i64 (n : Int) (n : Int) (by omega) (by omega) (by rw [hz2]; omega) (by omega)
  rw [hz1] at h
  have e : madeCells (Value.int .i64 0).cells (((n : Nat) : Int).toNat * 1) = (ones n 0).toArray := by
    rw [Int.toNat_natCast, Nat.mul_one]
    apply Array.ext
    · rw [size_madeCells]; simp [ones]
    · intro i h1 h2
      simp [madeCells, ones, Value.cells, Nat.mod_one]
  rw [e] at h
  simpa using h
set_option maxHeartbeats 1000000 in
theorem Repeat_one (w : World) (b n : Nat) (h1 : 1 ≤ n) (h8 : n ≤ 8) (hc : w.cell? ⟨b, 0, none⟩ = some (.int .i64 1)) :
    Calls Try.prog 84 #[.slice (some ⟨b, 0, none⟩) 1 1, .int .i64 n] w fun e w' => ∃ g, e = .returned (.slice (some ⟨g, 0, none⟩) n n) ∧ OL w' 3 w.heap.size (some ⟨g, 0, none⟩) n (List.replicate n 1) ∧ Below w.heap.size w w' := by
  have hb := World.block_lt_of_cell? w _ hc
  have hmk := fun W => mk_ints n W (by omega)
  have hsz : (Try.prog.info? 3).map (·.size) = some 1 := by kernel_rfl
  have hg0 : Hid ((w.alloc (.cells (ones n 0).toArray 3)).heap[w.heap.size]? = some (.cells (ones n 0).toArray 3 (0, 0))) := hide (heap_alloc_new _ _)
  have hS : Hid (∀ j v, [Value.int .i64 1][j]? = some v → (w.alloc (.cells (ones n 0).toArray 3)).cell? ((⟨b, 0, none⟩ : Addr).add j) = some v) := hide (fun j v hv => by
    match j, hv with
    | 0, hv => simp at hv; subst hv; simpa [Addr.add] using keep_alloc hc _)
  have hL := hide (ones_len (n := n) (p := 0) (by omega))
  have hB0 := hide (bl_alloc (bl_refl w) (.cells (ones n 0).toArray 3))
  have hnm : [Value.int .i64 1].length = Nat.min 1 n := by show 1 = min 1 n; omega
  go_enter Try.func84, Try.ntmps84
  go_wp2_with (first | (go_at_call 104; (refine (Mul_one n h8 _).mono ?_); rintro e w' ⟨rfl, rfl⟩) | (refine wpList_copy_splice rfl (.tmp 31) (.tmp 32) 32 32 rfl 3 Try.underlying32 hsz (some ⟨w.heap.size, 0, none⟩) (some ⟨b, 0, none⟩) n n 1 1 rfl rfl w.heap.size 0 (ones n 0) 3 hg0.out [.int .i64 1] hnm (fun _ => ⟨rfl, _, rfl, hS.out⟩) (by rw [hL.out]; simp; omega) (by intro v hv; simp at hv; subst hv; rfl) w.heap.size w hB0.out (Nat.le_refl _) ?_; intro w1 hg1 hb1))
  have HG1 : Hid (w1.heap[w.heap.size]? = some (.cells (ones n 1).toArray 3 (0, 0))) := hide (by
    have h := hg1.out
    rw [show splice (ones n 0) 0 [Value.int .i64 1] = ones n (0 + 1) from ones_splice (q := 1) (by omega)] at h
    exact h)
  clear hmk hg0 hS hL hB0 hnm hg1
  go_loopw [8] (fun v u => ∃ p : Nat, 1 ≤ p ∧ p ≤ n ∧ v = .int .i64 p ∧ Hid (u.heap[w.heap.size]? = some (.cells (ones n p).toArray 3 (0, 0))) ∧ Below w.heap.size w u) (fun v _ => n - (intOf v).toNat)
  case atStart => exact ⟨1, by omega, by omega, rfl, HG1, hb1⟩
  case round =>
    obtain ⟨p, hp1, hpn, rfl, hg, hbw⟩ := hrel
    rcases (by omega : p < n ∨ p = n) with hlt | rfl
    · obtain ⟨q, hq⟩ : ∃ q, q = min p (n - p) := ⟨_, rfl⟩
      have q1 : 1 ≤ q := by omega
      have q2 : p + q ≤ n := by omega
      have hqm : (List.replicate q (Value.int .i64 1)).length = Nat.min p (n - p) := by rw [List.length_replicate]; exact hq
      have SRC : Hid (∀ j v, (List.replicate q (Value.int .i64 1))[j]? = some v → wr.cell? ((⟨w.heap.size, 0, none⟩ : Addr).add j) = some v) := hide (fun j v hv => by
        rw [List.getElem?_replicate] at hv
        split at hv
        · cases hv
          rw [Addr.add_lit, Nat.zero_add, cell_of_row wr _ j _ _ _ hg.out, List.getElem?_toArray]
          exact ones_get (by omega)
        · cases hv)
      have hL := hide (ones_len (n := n) (p := p) (by omega))
      have HB := hide hbw
      have HQ := hide hq
      have i1 : (p : Int) < (n : Int) := by omega
      have i2 : (0 : Int) ≤ (p : Int) := by omega
      have i3 : (p : Int) ≤ (n : Int) := by omega
      have i4 : ¬ n = p := by omega
      have i5 : ¬ n = 0 := by omega
      have hw1 : IntKind.i64.wrap ((p : Int) + (q : Int)) = (p : Int) + (q : Int) := IntWalk.i64_in _ (by omega)
      clear hbw hq
      go_wp2
      have HGD : wr.drew.heap[w.heap.size]? = some (.cells (ones n p).toArray 3 (0, 0)) := hg.out
      have SRCD : ∀ j v, (List.replicate q (Value.int .i64 1))[j]? = some v → wr.drew.cell? ((⟨w.heap.size, 0, none⟩ : Addr).add j) = some v := SRC.out
      have HBD : Below w.heap.size w wr.drew := bl_drew HB.out
      have HGD := hide HGD
      have SRCD := hide SRCD
      have HBD := hide HBD
      have hone : Hid (∀ v ∈ List.replicate q (Value.int .i64 1), v.oneCell' = true) := hide (by intro v hv; rw [List.mem_replicate] at hv; rw [hv.2]; rfl)
      have hfit : p + (List.replicate q (Value.int .i64 1)).length ≤ (ones n p).length := by rw [hL.out, List.length_replicate]; omega
      have HQM := hide hqm
      clear hg SRC hqm
      go_region_law (refine step_copy_splice rfl (.tmp 41) (.tmp 44) 32 32 rfl 3 Try.underlying32 hsz (some ⟨w.heap.size, p, none⟩) (some ⟨w.heap.size, 0, none⟩) (n - p) (n - p) p n (by go_simp) (by go_simp) w.heap.size p (ones n p) 3 HGD.out (List.replicate q (.int .i64 1)) HQM.out (fun _ => ⟨rfl, _, rfl, SRCD.out⟩) hfit hone.out w.heap.size w HBD.out (Nat.le_refl _) ?_; intro w4 hg4 hb4; (try simp only [List.getElem_toArray, List.getElem_cons_succ, List.getElem_cons_zero]); (try go_simp))
      all_goals
        simp only [List.getElem_toArray, List.getElem_cons_succ, List.getElem_cons_zero]
        (try go_simp)
        go_wp2
        go_roundw
        case rel =>
          exact ⟨p + q, by omega, by omega, by simp, hide (by have h := hg4.out; rw [ones_splice q2] at h; exact h), hb4⟩
        case measure => simp [intOf]; omega
    · go_wp2
      go_ret
      exact ⟨_, rfl, OL_made (Nat.le_refl _) (by omega) hg.out, hbw⟩
end Go.Proofs.Ytlkfpcajpdohiaa
