/- The penalty at the end of a line, in the program. -/
import Derived.Test.YtafddofajfcffaaFit
import Derived.Test.YtafddofajfcffaaDem
namespace Go.Proofs.Ytafddofajfcffaa
open Go.ChangeShapes Go.WideShapes Go.ChangeAt Go.RowKit
set_option linter.unusedVariables false

/-- What a penalty shows: all zero for another item. -/
def pnW (x : It) : Int := if x.k = 3 then x.w else 0
def pnP (x : It) : Int := if x.k = 3 then x.p else 0
def pnF (x : It) : Bool := if x.k = 3 then x.f else false
theorem part_kind4 (x : It) (hx : KOk x) : ∃ T y, part x = .iface T y ∧ ((T = 175 ∧ (∃ a, y = bpv a) ∧ pnW x = 0 ∧ pnP x = 0 ∧ pnF x = false) ∨ (T = 182 ∧ (∃ a b c, y = gpv a b c) ∧ pnW x = 0 ∧ pnP x = 0 ∧ pnF x = false) ∨ (T = 164 ∧ y = ppv (pnW x) (pnP x) (pnF x))) := by
  obtain ⟨k, b, c, d, e, f⟩ := x
  rcases hx with h | h | h
  · simp only at h
    subst h
    exact ⟨175, bpv b, by simp [part], .inl ⟨rfl, ⟨_, rfl⟩, by simp [pnW], by simp [pnP], by simp [pnF]⟩⟩
  · simp only at h
    subst h
    exact ⟨182, gpv b c d, by simp [part], .inr (.inl ⟨rfl, ⟨_, _, _, rfl⟩, by simp [pnW], by simp [pnP], by simp [pnF]⟩)⟩
  · simp only at h
    subst h
    exact ⟨164, ppv b e f, by simp [part], .inr (.inr ⟨rfl, by simp [pnW, pnP, pnF]⟩)⟩
/-- The penalty at a place; zero ahead of the paragraph. -/
def pa (L : List It) (a : Int) : Int × Int × Bool := if a < 0 then (0, 0, false) else (pnW (tg L a.toNat), pnP (tg L a.toNat), pnF (tg L a.toNat))
set_option maxRecDepth 8000 in
set_option maxHeartbeats 2000000 in
theorem penaltyAt_i (w : World) {B g c1 : Nat} (v1 v2 v3 : Value) (L : List It) (hall : ∀ i, i < L.length → itOk (tg L i) = true) (hl : L.length ≤ 60) (hrow : w.ownsRow B 132 1 (.slice (some ⟨g, 0, none⟩) L.length c1) L.length (L.map part)) (a : Int) (ha : a < (L.length : Int)) :
    Calls Try.prog 146 #[.agg #[.slice (some ⟨g, 0, none⟩) L.length c1, v1, v2, v3], .int .i64 a] w fun e w' => e = .returned (ppv (pa L a).1 (pa L a).2.1 (pa L a).2.2) ∧ Below w.heap.size w w' := by
  have t1 : ∀ (a : Int) (W : World), (Instr.typeAssert (.iface 175 (bpv a)) 132 164 true).run Try.prog W = .ok (.tuple #[ppv 0 0 false, .bool false]) W := fun _ _ => by kernel_rfl
  have t2 : ∀ (a b c : Int) (W : World), (Instr.typeAssert (.iface 182 (gpv a b c)) 132 164 true).run Try.prog W = .ok (.tuple #[ppv 0 0 false, .bool false]) W := fun _ _ _ _ => by kernel_rfl
  have t3 : ∀ (a p : Int) (f : Bool) (W : World), (Instr.typeAssert (.iface 164 (ppv a p f)) 132 164 true).run Try.prog W = .ok (.tuple #[ppv a p f, .bool true]) W := fun _ _ _ _ => by kernel_rfl
  rcases (by omega : a < 0 ∨ 0 ≤ a) with h | h
  · rw [show pa L a = (0, 0, false) by simp [pa, h]]
    go_enter Try.func146, Try.ntmps146
    go_wp2
    refine bodyPost_ret (v := ppv 0 0 false) (by simp [results, Try.results146, go_sem, *]) rfl ⟨rfl, ?_⟩
    (repeat' (first | with_reducible exact bl_refl _ | with_reducible assumption | with_reducible refine bl_alloc ?_ _ | with_reducible refine bl_set ?_ ?_ _ | with_reducible refine bl_drewN ?_ _ | with_reducible refine bl_drew ?_ | with_reducible refine bl_call (by assumption) ?_))
    (all_goals (first | omega | (simp; done) | (simp; omega)))
  · obtain ⟨m, rfl⟩ : ∃ m : Nat, a = (m : Int) := ⟨a.toNat, by omega⟩
    have hm : m < L.length := by omega
    rw [show pa L m = (pnW (tg L m), pnP (tg L m), pnF (tg L m)) by unfold pa; rw [if_neg (by omega)]; rfl]
    have d1 := World.ownsRow.cellAt hrow m (by omega)
    obtain ⟨pT, py, hpart, hkind⟩ := part_kind4 (tg L m) (KOk.of (hall m hm))
    rw [List.getElem?_map, tg_get hm, Option.map_some, hpart] at d1
    obtain ⟨z0, hz0⟩ : ∃ z, z = pnW (tg L m) := ⟨_, rfl⟩
    obtain ⟨z1, hz1⟩ : ∃ z, z = pnP (tg L m) := ⟨_, rfl⟩
    obtain ⟨z2, hz2⟩ : ∃ z, z = pnF (tg L m) := ⟨_, rfl⟩
    rw [← hz0, ← hz1, ← hz2] at hkind ⊢
    have d2 : ((w.alloc (.cells #[.slice (some ⟨g, 0, none⟩) L.length c1, v1, v2, v3] 92)).alloc (.cells #[.int .i64 0, .int .i64 0, .bool false] 164)).cell? ⟨g, m, none⟩ = _ := keep_alloc (keep_alloc d1 _) _
    clear hrow d1 hpart hz0 hz1 hz2 hall
    rcases hkind with ⟨rfl, ⟨x, rfl⟩, rfl, rfl, rfl⟩ | ⟨rfl, ⟨x, y, z, rfl⟩, rfl, rfl, rfl⟩ | ⟨rfl, rfl⟩
    · go_enter Try.func146, Try.ntmps146
      go_wp2
      refine bodyPost_ret (v := ppv 0 0 false) (by simp [results, Try.results146, go_sem, *]) rfl ⟨rfl, ?_⟩
      (repeat' (first | with_reducible exact bl_refl _ | with_reducible assumption | with_reducible refine bl_alloc ?_ _ | with_reducible refine bl_set ?_ ?_ _ | with_reducible refine bl_drewN ?_ _ | with_reducible refine bl_drew ?_ | with_reducible refine bl_call (by assumption) ?_))
      (all_goals (first | omega | (simp; done) | (simp; omega)))
    · go_enter Try.func146, Try.ntmps146
      go_wp2
      refine bodyPost_ret (v := ppv 0 0 false) (by simp [results, Try.results146, go_sem, *]) rfl ⟨rfl, ?_⟩
      (repeat' (first | with_reducible exact bl_refl _ | with_reducible assumption | with_reducible refine bl_alloc ?_ _ | with_reducible refine bl_set ?_ ?_ _ | with_reducible refine bl_drewN ?_ _ | with_reducible refine bl_drew ?_ | with_reducible refine bl_call (by assumption) ?_))
      (all_goals (first | omega | (simp; done) | (simp; omega)))
    · go_enter Try.func146, Try.ntmps146
      go_wp2
      refine bodyPost_ret (v := ppv z0 z1 z2) (by simp [results, Try.results146, go_sem, *]) rfl ⟨rfl, ?_⟩
      (repeat' (first | with_reducible exact bl_refl _ | with_reducible assumption | with_reducible refine bl_alloc ?_ _ | with_reducible refine bl_set ?_ ?_ _ | with_reducible refine bl_drewN ?_ _ | with_reducible refine bl_drew ?_ | with_reducible refine bl_call (by assumption) ?_))
      (all_goals (first | omega | (simp; done) | (simp; omega)))
end Go.Proofs.Ytafddofajfcffaa
