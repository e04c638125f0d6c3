/- What the parts of a paragraph answer in the program. -/
import Derived.Test.YtafddofajfcffaaParM
namespace Go.Proofs.Ytafddofajfcffaa
open Go.ChangeShapes Go.WideShapes Go.ChangeAt Go.RowKit
set_option linter.unusedVariables false

theorem plus_big (a b c x y z : Int) (w : World) (h1 : -1000000 ≤ a ∧ a ≤ 1000000) (h2 : -1000000 ≤ b ∧ b ≤ 1000000) (h3 : -1000000 ≤ c ∧ c ≤ 1000000) (k1 : -1000000 ≤ x ∧ x ≤ 1000000) (k2 : -1000000 ≤ y ∧ y ≤ 1000000) (k3 : -1000000 ≤ z ∧ z ≤ 1000000) :
    Calls Try.prog 117 #[gv a b c, gv x y z] w fun e w' => e = .returned (gv (a + x) (b + y) (c + z)) ∧ Below w.heap.size w w' := by
  obtain ⟨l1, l2⟩ := h1; obtain ⟨l3, l4⟩ := h2; obtain ⟨l5, l6⟩ := h3; obtain ⟨l7, l8⟩ := k1; obtain ⟨l9, l10⟩ := k2; obtain ⟨l11, l12⟩ := k3
  go_enter Try.func117, Try.ntmps117
  go_wp2
  refine bodyPost_ret (v := gv (a + x) (b + y) (c + z)) (by simp [results, Try.results117, go_sem, *]) rfl ⟨rfl, ?_⟩
  repeat' (first | with_reducible exact bl_refl _ | with_reducible assumption | with_reducible refine bl_alloc ?_ _ | with_reducible refine bl_set ?_ ?_ _ | with_reducible refine bl_drewN ?_ _ | with_reducible refine bl_drew ?_ | with_reducible refine bl_call (by assumption) ?_)
  all_goals (first | omega | (simp; done) | (simp; omega))
theorem minus_big (a b c x y z : Int) (w : World) (h1 : -1000000 ≤ a ∧ a ≤ 1000000) (h2 : -1000000 ≤ b ∧ b ≤ 1000000) (h3 : -1000000 ≤ c ∧ c ≤ 1000000) (k1 : -1000000 ≤ x ∧ x ≤ 1000000) (k2 : -1000000 ≤ y ∧ y ≤ 1000000) (k3 : -1000000 ≤ z ∧ z ≤ 1000000) :
    Calls Try.prog 154 #[gv a b c, gv x y z] w fun e w' => e = .returned (gv (a - x) (b - y) (c - z)) ∧ Below w.heap.size w w' := by
  obtain ⟨l1, l2⟩ := h1; obtain ⟨l3, l4⟩ := h2; obtain ⟨l5, l6⟩ := h3; obtain ⟨l7, l8⟩ := k1; obtain ⟨l9, l10⟩ := k2; obtain ⟨l11, l12⟩ := k3
  go_enter Try.func154, Try.ntmps154
  go_wp2
  refine bodyPost_ret (v := gv (a - x) (b - y) (c - z)) (by simp [results, Try.results154, go_sem, *]) rfl ⟨rfl, ?_⟩
  repeat' (first | with_reducible exact bl_refl _ | with_reducible assumption | with_reducible refine bl_alloc ?_ _ | with_reducible refine bl_set ?_ ?_ _ | with_reducible refine bl_drewN ?_ _ | with_reducible refine bl_drew ?_ | with_reducible refine bl_call (by assumption) ?_)
  all_goals (first | omega | (simp; done) | (simp; omega))
theorem addGlue_big (a b c x y z : Int) (w : World) (h1 : -1000000 ≤ a ∧ a ≤ 1000000) (h2 : -1000000 ≤ b ∧ b ≤ 1000000) (h3 : -1000000 ≤ c ∧ c ≤ 1000000) (k1 : -1000000 ≤ x ∧ x ≤ 1000000) (k2 : -1000000 ≤ y ∧ y ≤ 1000000) (k3 : -1000000 ≤ z ∧ z ≤ 1000000) :
    Calls Try.prog 133 #[gv a b c, gv x y z] w fun e w' => e = .returned (gv (a + x) (b + y) (c + z)) ∧ Below w.heap.size w w' := by
  obtain ⟨l1, l2⟩ := h1; obtain ⟨l3, l4⟩ := h2; obtain ⟨l5, l6⟩ := h3; obtain ⟨l7, l8⟩ := k1; obtain ⟨l9, l10⟩ := k2; obtain ⟨l11, l12⟩ := k3
  go_enter Try.func133, Try.ntmps133
  go_wp2
  refine bodyPost_ret (v := gv (a + x) (b + y) (c + z)) (by simp [results, Try.results133, go_sem, *]) rfl ⟨rfl, ?_⟩
  repeat' (first | with_reducible exact bl_refl _ | with_reducible assumption | with_reducible refine bl_alloc ?_ _ | with_reducible refine bl_set ?_ ?_ _ | with_reducible refine bl_drewN ?_ _ | with_reducible refine bl_drew ?_ | with_reducible refine bl_call (by assumption) ?_)
  all_goals (first | omega | (simp; done) | (simp; omega))
theorem box_inside (a : Int) (w : World) : Calls Try.prog 185 #[bpv a] w fun e w' => e = .returned (gv a 0 0) ∧ Below w.heap.size w w' := by
  go_enter Try.func185, Try.ntmps185
  go_wp2
  refine bodyPost_ret (v := gv a 0 0) (by simp [results, Try.results185, go_sem, *]) rfl ⟨rfl, ?_⟩
  repeat' (first | with_reducible exact bl_refl _ | with_reducible assumption | with_reducible refine bl_alloc ?_ _ | with_reducible refine bl_set ?_ ?_ _ | with_reducible refine bl_drewN ?_ _ | with_reducible refine bl_drew ?_ | with_reducible refine bl_call (by assumption) ?_)
  all_goals (first | omega | (simp; done) | (simp; omega))
theorem glue_inside (a b c : Int) (w : World) : Calls Try.prog 191 #[gpv a b c] w fun e w' => e = .returned (gv a b c) ∧ Below w.heap.size w w' := by
  go_enter Try.func191, Try.ntmps191
  go_wp2
  refine bodyPost_ret (v := gv a b c) (by simp [results, Try.results191, go_sem, *]) rfl ⟨rfl, ?_⟩
  repeat' (first | with_reducible exact bl_refl _ | with_reducible assumption | with_reducible refine bl_alloc ?_ _ | with_reducible refine bl_set ?_ ?_ _ | with_reducible refine bl_drewN ?_ _ | with_reducible refine bl_drew ?_ | with_reducible refine bl_call (by assumption) ?_)
  all_goals (first | omega | (simp; done) | (simp; omega))
theorem pen_inside (a p : Int) (f : Bool) (w : World) : Calls Try.prog 179 #[ppv a p f] w fun e w' => e = .returned (gv 0 0 0) ∧ Below w.heap.size w w' := by
  go_enter Try.func179, Try.ntmps179
  go_wp2
  refine bodyPost_ret (v := gv 0 0 0) (by simp [results, Try.results179, go_sem, *]) rfl ⟨rfl, ?_⟩
  repeat' (first | with_reducible exact bl_refl _ | with_reducible assumption | with_reducible refine bl_alloc ?_ _ | with_reducible refine bl_set ?_ ?_ _ | with_reducible refine bl_drewN ?_ _ | with_reducible refine bl_drew ?_ | with_reducible refine bl_call (by assumption) ?_)
  all_goals (first | omega | (simp; done) | (simp; omega))
/-- What 'inside' answers for any part. -/
theorem part_inside (x : It) (hx : KOk x) : ∃ T y F, part x = .iface T y ∧ (∀ W, (method 300 T y "loop.example/typesetting/impl.inside").run Try.prog W = .ok (F, y) W) ∧ ∀ w, Calls Try.prog F #[y] w fun e w' => e = .returned (gv (inW x) (inT x) (inS x)) ∧ Below w.heap.size w w' := by
  obtain ⟨k, b, c, d, e, f⟩ := x
  rcases hx with h | h | h
  · simp only at h
    subst h
    refine ⟨175, bpv b, 185, by simp [part], fun W => by kernel_rfl, fun w => ?_⟩
    rw [show gv (inW ⟨1, b, c, d, e, f⟩) (inT ⟨1, b, c, d, e, f⟩) (inS ⟨1, b, c, d, e, f⟩) = gv b 0 0 by simp [inW, inT, inS]]
    exact box_inside b w
  · simp only at h
    subst h
    refine ⟨182, gpv b c d, 191, by simp [part], fun W => by kernel_rfl, fun w => ?_⟩
    rw [show gv (inW ⟨2, b, c, d, e, f⟩) (inT ⟨2, b, c, d, e, f⟩) (inS ⟨2, b, c, d, e, f⟩) = gv b c d by simp [inW, inT, inS]]
    exact glue_inside b c d w
  · simp only at h
    subst h
    refine ⟨164, ppv b e f, 179, by simp [part], fun W => by kernel_rfl, fun w => ?_⟩
    rw [show gv (inW ⟨3, b, c, d, e, f⟩) (inT ⟨3, b, c, d, e, f⟩) (inS ⟨3, b, c, d, e, f⟩) = gv 0 0 0 by simp [inW, inT, inS]]
    exact pen_inside b e f w
set_option maxRecDepth 20000 in
theorem isBox_i (x : It) (hx : KOk x) (w : World) :
    Calls Try.prog 118 #[part x] w fun e w' => e = .returned (.bool (isB x)) ∧ Below w.heap.size w w' := by
  have t1 : ∀ (a : Int) (W : World), (Instr.typeAssert (.iface 175 (bpv a)) 132 175 true).run Try.prog W = .ok (.tuple #[bpv a, .bool true]) W := fun _ _ => by kernel_rfl
  have t2 : ∀ (a b c : Int) (W : World), (Instr.typeAssert (.iface 182 (gpv a b c)) 132 175 true).run Try.prog W = .ok (.tuple #[bpv 0, .bool false]) W := fun _ _ _ _ => by kernel_rfl
  have t3 : ∀ (a p : Int) (f : Bool) (W : World), (Instr.typeAssert (.iface 164 (ppv a p f)) 132 175 true).run Try.prog W = .ok (.tuple #[bpv 0, .bool false]) W := fun _ _ _ _ => by kernel_rfl
  obtain ⟨k, b, c, d, e, f⟩ := x
  rcases hx with h | h | h
  · simp only at h
    subst h
    rw [show part ⟨1, b, c, d, e, f⟩ = .iface 175 (bpv b) from by simp [part], show isB ⟨1, b, c, d, e, f⟩ = true from by simp [isB]]
    go_enter Try.func118, Try.ntmps118
    go_wp2
    go_ret
    refine ⟨rfl, ?_⟩
    (repeat' (first | with_reducible exact bl_refl _ | with_reducible assumption | with_reducible refine bl_alloc ?_ _ | with_reducible refine bl_set ?_ ?_ _ | with_reducible refine bl_drewN ?_ _ | with_reducible refine bl_drew ?_ | with_reducible refine bl_call (by assumption) ?_))
  · simp only at h
    subst h
    rw [show part ⟨2, b, c, d, e, f⟩ = .iface 182 (gpv b c d) from by simp [part], show isB ⟨2, b, c, d, e, f⟩ = false from by simp [isB]]
    go_enter Try.func118, Try.ntmps118
    go_wp2
    go_ret
    refine ⟨rfl, ?_⟩
    (repeat' (first | with_reducible exact bl_refl _ | with_reducible assumption | with_reducible refine bl_alloc ?_ _ | with_reducible refine bl_set ?_ ?_ _ | with_reducible refine bl_drewN ?_ _ | with_reducible refine bl_drew ?_ | with_reducible refine bl_call (by assumption) ?_))
  · simp only at h
    subst h
    rw [show part ⟨3, b, c, d, e, f⟩ = .iface 164 (ppv b e f) from by simp [part], show isB ⟨3, b, c, d, e, f⟩ = false from by simp [isB]]
    go_enter Try.func118, Try.ntmps118
    go_wp2
    go_ret
    refine ⟨rfl, ?_⟩
    (repeat' (first | with_reducible exact bl_refl _ | with_reducible assumption | with_reducible refine bl_alloc ?_ _ | with_reducible refine bl_set ?_ ?_ _ | with_reducible refine bl_drewN ?_ _ | with_reducible refine bl_drew ?_ | with_reducible refine bl_call (by assumption) ?_))

/-- Lists that are filled one by one. -/
def gl3 (L : List It) (j : Nat) : Gp := ⟨sW L j, sT L j, sS L j⟩
def SL (L : List It) (k : Nat) : List Gp := (List.range (L.length + 1)).map fun j => if j ≤ k then gl3 L j else ⟨0, 0, 0⟩
def FL (L : List It) (k : Nat) : List Int := (List.range (L.length + 1)).map fun j => if j ≤ k then (nF L j : Int) else 0
def XL (L : List It) (d : Nat) : List Int := (List.range (L.length + 1)).map fun j => if L.length ≤ j + d then (nxB L (L.length - j) : Int) else 0
theorem SL_len (L : List It) (k : Nat) : (SL L k).length = L.length + 1 := by simp [SL]
theorem FL_len (L : List It) (k : Nat) : (FL L k).length = L.length + 1 := by simp [FL]
theorem XL_len (L : List It) (k : Nat) : (XL L k).length = L.length + 1 := by simp [XL]
theorem SL_get {L : List It} {k j : Nat} (h : j ≤ L.length) : (SL L k)[j]? = some (if j ≤ k then gl3 L j else ⟨0, 0, 0⟩) := by simp [SL, Nat.lt_succ_of_le h]
theorem FL_get {L : List It} {k j : Nat} (h : j ≤ L.length) : ng (FL L k) j = if j ≤ k then (nF L j : Int) else 0 := by simp [ng, FL, List.getD, Nat.lt_succ_of_le h]
theorem XL_get {L : List It} {d j : Nat} (h : j ≤ L.length) : ng (XL L d) j = if L.length ≤ j + d then (nxB L (L.length - j) : Int) else 0 := by simp [ng, XL, List.getD, Nat.lt_succ_of_le h]
theorem SL_zero (L : List It) : SL L 0 = List.replicate (L.length + 1) ⟨0, 0, 0⟩ := by
  apply List.ext_getElem (by simp [SL])
  intro i h1 h2
  simp [SL, gl3]
  intro h; subst h; exact ⟨rfl, rfl, rfl⟩
theorem FL_zero (L : List It) : FL L 0 = List.replicate (L.length + 1) 0 := by
  apply List.ext_getElem (by simp [FL])
  intro i h1 h2
  simp [FL]
  intro h; subst h; rfl
theorem XL_zero (L : List It) : (List.replicate (L.length + 1) (0 : Int)).set L.length L.length = XL L 0 := by
  apply Agr.all (by simp [XL])
  intro j hj
  simp at hj
  rw [ng_set (by simpa using hj), XL_get (by omega)]
  by_cases e : L.length = j
  · subst e
    rw [if_pos rfl, if_pos (by omega), Nat.sub_self]; rfl
  · rw [if_neg e, if_neg (by omega), ng_lt (by simpa using hj)]; simp
theorem SL_step {L : List It} {k : Nat} (h : k < L.length) : (SL L k).set (k + 1) (gl3 L (k + 1)) = SL L (k + 1) := by
  apply List.ext_getElem?
  intro j
  rw [List.getElem?_set, SL_len]
  by_cases hj : j ≤ L.length
  · rw [SL_get hj, SL_get hj]
    by_cases e : k + 1 = j
    · subst e; simp; omega
    · rw [if_neg e]
      by_cases e2 : j ≤ k
      · rw [if_pos e2, if_pos (by omega)]
      · rw [if_neg e2, if_neg (by omega)]
  · rw [if_neg (by omega), List.getElem?_eq_none (by rw [SL_len]; omega), List.getElem?_eq_none (by rw [SL_len]; omega)]
theorem FL_step {L : List It} {k : Nat} {z : Int} (h : k < L.length) (hz : z = (nF L (k + 1) : Int)) : (FL L k).set (k + 1) z = FL L (k + 1) := by
  apply Agr.all (by simp [FL])
  intro j hj
  rw [List.length_set, FL_len] at hj
  rw [ng_set (by rw [FL_len]; exact hj), FL_get (by omega), FL_get (by omega)]
  by_cases e : k + 1 = j
  · subst e; rw [if_pos rfl, if_pos (Nat.le_refl _), hz]
  · rw [if_neg e]
    by_cases e2 : j ≤ k
    · rw [if_pos e2, if_pos (by omega)]
    · rw [if_neg e2, if_neg (by omega)]
theorem XL_step {L : List It} {d i : Nat} {z : Int} (h : i + (d + 1) = L.length) (hz : z = (nxB L (d + 1) : Int)) : (XL L d).set i z = XL L (d + 1) := by
  apply Agr.all (by simp [XL])
  intro j hj
  rw [List.length_set, XL_len] at hj
  rw [ng_set (by rw [XL_len]; exact hj), XL_get (by omega), XL_get (by omega)]
  by_cases e : i = j
  · subst e; rw [if_pos rfl, if_pos (by omega), hz]; congr 2; omega
  · rw [if_neg e]
    by_cases e2 : L.length ≤ j + d
    · rw [if_pos e2, if_pos (by omega)]
    · rw [if_neg e2, if_neg (by omega)]
theorem set_set {l : List Int} {k : Nat} {a b : Int} : (l.set k a).set k b = l.set k b := List.set_set ..
end Go.Proofs.Ytafddofajfcffaa
