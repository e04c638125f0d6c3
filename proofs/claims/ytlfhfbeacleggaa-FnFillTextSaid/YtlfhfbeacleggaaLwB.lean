/- WrapWords, in the program and in its model. -/
import Derived.Test.YtlfhfbeacleggaaLwS
namespace Go.Proofs.Ytlfhfbeacleggaa
open Go.ChangeShapes Go.WideShapes Go.ChangeAt Go.RowKit
set_option linter.unusedVariables false
set_option linter.unusedSimpArgs false
open Classical

theorem wwO_no {l : List ByteArray} {wd : Int} (h : (wok l && inB wd 20 60) = false) : wwO l wd = [] := by unfold wwO; rw [h]; rfl
theorem wwO_yes {l : List ByteArray} {wd : Int} (h : (wok l && inB wd 20 60) = true) : wwO l wd = wW l wd := by unfold wwO; rw [h]; rfl
theorem wwO_len {l : List ByteArray} {wd : Int} : (wwO l wd).length ≤ 40 := by
  cases q : (wok l && inB wd 20 60)
  · rw [wwO_no q]; simp
  · rw [wwO_yes q]
    have h1 := (wok_iff.1 ((Bool.and_eq_true _ _).mp q).1).2
    have := wE_len (n := l.length) (T := bt l.length (cWo l wd)) (k := l.length) (f := 0)
    unfold wW
    omega
theorem cW_bd2 {l : List ByteArray} {wd : Int} (hw : wd ≤ 60) (f t : Int) : 0 ≤ (cW l wd f t).1 ∧ (cW l wd f t).1 ≤ 3721 := by
  unfold cW
  split
  · next h =>
    have hr : rs l wd f.toNat t.toNat ≤ 61 := by unfold rs; omega
    have := sq_bd h.2.2.2 hr
    dsimp only
    split <;> omega
  · dsimp only; omega
theorem RetI.nil (w : World) : RetI w [] (.returned (.slice none 0 0)) w := ⟨none, 0, rfl, OL.nil _ _ _, bl_refl _⟩
theorem RetI.up {w u w' : World} {R : List Int} {e : Ending} (h : RetI u R e w') (hb : Below w.heap.size w u) : RetI w R e w' := by
  obtain ⟨A, c, he, ho, hb'⟩ := h
  exact ⟨A, c, he, ho.more hb.size, bl_call hb' hb⟩
set_option maxHeartbeats 1000000 in
theorem WrapWords_i (w : World) (A : Option Addr) (n c : Nat) (l : List ByteArray) (wd : Int) (ha : SL w A n l) (hc : n ≤ c) (hs : ∀ k, k < l.length → (sg l k).size ≤ 1048576) (hn : n ≤ 1048576) :
    Calls Try.prog 29 #[.slice A n c, .int .i64 wd] w (RetI w (wwO l wd)) := by
  obtain rfl : n = l.length := ha.1
  have CW := hide (canWrap_i w A l.length c l wd ha hs (by omega))
  have HA := hide ha
  clear ha hs
  cases q : (wok l && inB wd 20 60)
  · have O := hide (wwO_no q)
    rw [q] at CW
    rw [O.out]
    clear q
    go_enter Try.func29, Try.ntmps29
    go_wp2_with (go_at_call 84; refine (CW.out).mono ?_; rintro e w' ⟨rfl, rfl⟩)
    go_ret
    exact RetI.nil w
  rw [q] at CW
  have O := hide (wwO_yes q)
  obtain ⟨k1, k2⟩ := (Bool.and_eq_true _ _).mp q
  have hwk := wok_iff.1 k1
  have hwd := inB_iff.1 k2
  have ok := cWo_ok hwk hwd.1 hwd.2
  have hl := hwk.2
  have LW := hide (fun (u : World) (hu : Below w.heap.size w u) (b1 b2 : Nat) (hb1 : b1 < u.heap.size) (hb2 : b2 < u.heap.size) (c1 : u.cell? ⟨b1, 0, none⟩ = some (.slice A l.length c)) (c2 : u.cell? ⟨b2, 0, none⟩ = some (.int .i64 wd)) =>
    leastWrap_i u l.length (fun f t => cW l wd f t) (bt l.length (cWo l wd)) (fun f t => cand (cWo l wd) (bt l.length (cWo l wd)) f t) (.pointer (some ⟨b1, 0, none⟩)) (.pointer (some ⟨b2, 0, none⟩)) hl
      (fun f hf => bt_step hf) bt_end (fun f t h => cand_no h) (fun f t h => cand_yes h)
      (fun h1 f hf => by
        have a := bt_pos0 ok h1 hf
        have b := bt_bd ok (d := l.length - f) (f := f) rfl hf
        exact ⟨a.1, a.2, b.1, by omega⟩) (fun f hf => (bt_pos ok hf).1) (fun f t => cW_bd2 hwd.2 _ _)
      (fun v hv f t h1 h2 => wrapped1_i v b1 b2 c A l wd 0 f t (keep_cell hv c1) (keep_cell hv c2) ((HA.out.below hu).below hv) hc hwk hwd.1 hwd.2 h1 h2) (wW l wd) rfl)
  rw [← O.out] at LW
  clear q O k1 k2 hwk hwd ok
  go_enter Try.func29, Try.ntmps29
  go_wp2_with first | (go_at_call 84; refine (CW.out).mono ?_; rintro e w' ⟨rfl, rfl⟩) | (go_at_call 86; (with_reducible refine (costOfWrapped_i _ _ _ _ _).mono ?_); rintro e w' ⟨rfl, rfl⟩) | (go_at_call 85; (with_reducible refine (LW.out _ (bl_alloc (bl_alloc (bl_refl _) _) _) _ _ (by simp; omega) (by simp) (by simp [go_sem]) (by simp [go_sem])).mono ?_); rintro e u1 ⟨A1, c1, rfl, ho, hb⟩)
  go_ret
  exact RetI.up ⟨A1, c1, rfl, ho, hb⟩ (bl_alloc (bl_alloc (bl_refl _) _) _)
end Go.Proofs.Ytlfhfbeacleggaa
