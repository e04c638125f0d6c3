/- slices.Repeat of a single line: that many of it, in new memory. -/
import Derived.Test.YtlfhfbeacleggaaInts
import Derived.Test.YtlfhfbeacleggaaRpl
import Derived.Laws.CopyOwn
import Derived.Deep.RegionLaw
namespace Go.Proofs.Ytlfhfbeacleggaa
open Go.ChangeShapes Go.WideShapes Go.ChangeAt Go.RowKit
set_option linter.unusedVariables false
set_option maxRecDepth 4000

theorem ln_infoR : (Try.prog.info? 46).map (fun i => (i.zero, i.size, i.bytes)) = some (some (.agg #[.int .i64 0, .int .i64 0, .int .i64 0]), 3, 24) := by kernel_rfl
theorem mk_lines (x : List Value) (n : Nat) (W : World) (h : n ≤ 100) : (Instr.makeSlice 35 (.int .i64 (n : Int)) (.int .i64 (n : Int))).run Try.prog W = .ok (.slice (some ⟨W.heap.size, 0, none⟩) n n) (W.alloc (.cells (lns x n 0).toArray 46)) := by
  obtain ⟨i0, hi, hz0, hz1, hz2⟩ := info_parts ln_infoR
  have h := run_make (P := Try.prog) W 35 46 i0 (.agg #[.int .i64 0, .int .i64 0, .int .i64 0]) Try.underlying35 hi hz0 .i64 .i64 (n : Int) (n : Int) (by omega) (by omega) (by rw [hz2]; omega) (by omega)
  rw [hz1] at h
  have e : madeCells (Value.agg #[.int .i64 0, .int .i64 0, .int .i64 0]).cells (((n : Nat) : Int).toNat * 3) = (lns x n 0).toArray := by
    rw [Int.toNat_natCast]
    have e0 : lns x n 0 = rpl zl n := by simp [lns, rpl]
    rw [e0]
    apply Array.ext
    · rw [size_madeCells, List.size_toArray, rpl_len rfl]
    · intro i h1 h2
      have h3 : i < n * 3 := by rw [size_madeCells] at h1; exact h1
      have e3 := rpl_get (x := zl) rfl (n := n) (j := i) h3
      have h4 : i < (rpl zl n).length := by rw [rpl_len rfl]; exact h3
      rw [List.getElem?_eq_getElem h4] at e3
      rcases (by omega : i % 3 = 0 ∨ i % 3 = 1 ∨ i % 3 = 2) with m | m | m
      all_goals
        have e5 : (rpl zl n)[i] = .int .i64 0 := Option.some.inj (e3.trans (by rw [m]; rfl))
        simp only [List.getElem_toArray]
        rw [e5]
        simp [madeCells, Value.cells, m]
  rw [e] at h
  simpa using h
set_option maxHeartbeats 1000000 in
theorem Repeat_line (w : World) (b n : Nat) (x1 x2 x3 : Int) (h1 : 1 ≤ n) (h8 : n ≤ 40) (hb : b < w.heap.size) (hc : ∀ j v, (xl x1 x2 x3)[j]? = some v → w.cell? ⟨b, j, none⟩ = some v) :
    Calls Try.prog 90 #[.slice (some ⟨b, 0, none⟩) 1 1, .int .i64 n] w fun e w' => ∃ g, e = .returned (.slice (some ⟨g, 0, none⟩) n n) ∧ (w.heap.size ≤ g ∧ w'.heap[g]? = some (.cells (lns (xl x1 x2 x3) n n).toArray 46 (0, 0))) ∧ Below w.heap.size w w' := by
  have hx : (xl x1 x2 x3).length = 3 := rfl
  have hmk := fun W => mk_lines (xl x1 x2 x3) n W (by omega)
  have hsz : (Try.prog.info? 46).map (·.size) = some 3 := by kernel_rfl
  have hg0 : Hid ((w.alloc (.cells (lns (xl x1 x2 x3) n 0).toArray 46)).heap[w.heap.size]? = some (.cells (lns (xl x1 x2 x3) n 0).toArray 46 (0, 0))) := hide (heap_alloc_new _ _)
  have hS : Hid (∀ j v, (xl x1 x2 x3)[j]? = some v → (w.alloc (.cells (lns (xl x1 x2 x3) n 0).toArray 46)).cell? ((⟨b, 0, none⟩ : Addr).add j) = some v) := hide (fun j v hv => by rw [Addr.add_lit, Nat.zero_add]; exact keep_alloc (hc j v hv) _)
  have hL := hide (lns_len hx (n := n) (p := 0) (by omega))
  have hB0 := hide (bl_alloc (bl_refl w) (.cells (lns (xl x1 x2 x3) n 0).toArray 46))
  have hnm : (xl x1 x2 x3).length = Nat.min 1 n * 3 := by show 3 = min 1 n * 3; omega
  have hm1 : Nat.min 1 n = 1 := by show min 1 n = 1; omega
  go_enter Try.func90, Try.ntmps90
  go_wp2_with (first | (go_at_call 148; (refine (Mul_oneL n h8 _).mono ?_); rintro e w' ⟨rfl, rfl⟩) | (refine wpList_copy_wide rfl (.tmp 31) (.tmp 32) 35 35 rfl 46 3 Try.underlying35 hsz w.heap.size 0 n n ⟨b, 0, none⟩ 1 1 rfl rfl (lns (xl x1 x2 x3) n 0) 46 hg0.out (xl x1 x2 x3) hnm hS.out (by rw [hL.out, hx]; omega) (by intro v hv; simp [xl] at hv; rcases hv with rfl | rfl | rfl <;> rfl) w.heap.size w hB0.out (Nat.le_refl _) ?_; rw [hm1]; intro w1 hg1 hb1))
  have HG1 : Hid (w1.heap[w.heap.size]? = some (.cells (lns (xl x1 x2 x3) n 1).toArray 46 (0, 0))) := hide (by
    have h := hg1.out
    have e := lns_splice hx (n := n) (p := 0) (q := 1) (by omega)
    rw [Nat.zero_mul, show rpl (xl x1 x2 x3) 1 = xl x1 x2 x3 by simp [rpl]] at e
    rw [e] at h
    exact h)
  clear hmk hg0 hS hL hB0 hnm hg1
  go_loopw [8] (fun v u => ∃ p : Nat, 1 ≤ p ∧ p ≤ n ∧ v = .int .i64 p ∧ Hid (u.heap[w.heap.size]? = some (.cells (lns (xl x1 x2 x3) n p).toArray 46 (0, 0))) ∧ Below w.heap.size w u) (fun v _ => n - (intOf v).toNat)
  case atStart => exact ⟨1, by omega, by omega, rfl, HG1, hb1⟩
  case round =>
    obtain ⟨p, hp1, hpn, rfl, hg, hbw⟩ := hrel
    rcases (by omega : p < n ∨ p = n) with hlt | rfl
    · obtain ⟨q, hq⟩ : ∃ q, q = min p (n - p) := ⟨_, rfl⟩
      have q1 : 1 ≤ q := by omega
      have q2 : p + q ≤ n := by omega
      have hqm : (rpl (xl x1 x2 x3) q).length = Nat.min p (n - p) * 3 := by rw [rpl_len hx, hq]
      have hqe : Nat.min p (n - p) = q := hq.symm
      have SRC : Hid (∀ j v, (rpl (xl x1 x2 x3) q)[j]? = some v → wr.cell? ((⟨w.heap.size, 0, none⟩ : Addr).add j) = some v) := hide (fun j v hv => by
        have hj : j < q * 3 := by have := (List.getElem?_eq_some_iff.1 hv).1; rwa [rpl_len hx] at this
        rw [Addr.add_lit, Nat.zero_add, cell_of_row wr _ j _ _ _ hg.out, List.getElem?_toArray, lns_get hx (by omega), ← rpl_get hx hj]
        exact hv)
      have hL := hide (lns_len hx (n := n) (p := p) (by omega))
      have HB := hide hbw
      have HQ := hide hq
      have i1 : (p : Int) < (n : Int) := by omega
      have i2 : (0 : Int) ≤ (p : Int) := by omega
      have i3 : (p : Int) ≤ (n : Int) := by omega
      have i4 : ¬ n = p := by omega
      have i5 : ¬ n = 0 := by omega
      have hw1 : IntKind.i64.wrap ((p : Int) + (q : Int)) = (p : Int) + (q : Int) := IntWalk.i64_in _ (by omega)
      clear hbw hq
      go_wp2
      have HGD : wr.drew.heap[w.heap.size]? = some (.cells (lns (xl x1 x2 x3) n p).toArray 46 (0, 0)) := hg.out
      have SRCD : ∀ j v, (rpl (xl x1 x2 x3) q)[j]? = some v → wr.drew.cell? ((⟨w.heap.size, 0, none⟩ : Addr).add j) = some v := SRC.out
      have HBD : Below w.heap.size w wr.drew := bl_drew HB.out
      have HGD := hide HGD
      have SRCD := hide SRCD
      have HBD := hide HBD
      have hone : Hid (∀ v ∈ rpl (xl x1 x2 x3) q, v.oneCell' = true) := hide (by
        intro v hv
        obtain ⟨j, hj, e⟩ := List.getElem_of_mem hv
        have e2 := rpl_get hx (n := q) (j := j) (by rwa [rpl_len hx] at hj)
        rw [List.getElem?_eq_getElem hj, e] at e2
        have := List.mem_of_getElem? e2.symm
        simp [xl] at this
        rcases this with rfl | rfl | rfl <;> rfl)
      have hfit : p * 3 + (rpl (xl x1 x2 x3) q).length ≤ (lns (xl x1 x2 x3) n p).length := by rw [hL.out, rpl_len hx]; omega
      have HQM := hide hqm
      have HQE := hide hqe
      clear hg SRC hqm hqe
      go_region_law (refine step_copy_wide rfl (.tmp 41) (.tmp 44) 35 35 rfl 46 3 Try.underlying35 hsz w.heap.size (p * 3) (n - p) (n - p) ⟨w.heap.size, 0, none⟩ p n (by go_simp) (by go_simp) (lns (xl x1 x2 x3) n p) 46 HGD.out (rpl (xl x1 x2 x3) q) HQM.out SRCD.out hfit hone.out w.heap.size w HBD.out (Nat.le_refl _) ?_; rw [HQE.out]; intro w4 hg4 hb4; (try simp only [List.getElem_toArray, List.getElem_cons_succ, List.getElem_cons_zero]); (try go_simp))
      all_goals
        simp only [List.getElem_toArray, List.getElem_cons_succ, List.getElem_cons_zero]
        (try go_simp)
        go_wp2
        go_roundw
        case rel =>
          exact ⟨p + q, by omega, by omega, by simp, hide (by have h := hg4.out; rw [lns_splice hx q2] at h; exact h), hb4⟩
        case measure => simp [intOf]; omega
    · go_wp2
      go_ret
      exact ⟨_, rfl, ⟨Nat.le_refl _, hg.out⟩, hbw⟩
end Go.Proofs.Ytlfhfbeacleggaa
